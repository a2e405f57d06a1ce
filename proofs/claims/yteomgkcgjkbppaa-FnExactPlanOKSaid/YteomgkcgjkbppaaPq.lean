import Derived.Test.YteomgkcgjkbppaaPo
/-! The specification: l11Match at a variable. -/
namespace Go.Proofs.Yteomgkcgjkbppaa
open Go.RowKit Go.Deep Go.Lib
set_option linter.unusedVariables false
set_option maxRecDepth 100000
set_option linter.unusedSimpArgs false

/-- What l11Match leaves. -/
def MtA (p t : Tr) (bl : List (ByteArray × Tr)) (w : World) (e : Ending) (w' : World) : Prop :=
  ∃ (b cap : Nat), e = .returned (.tuple #[.slice (some ⟨b, 0, none⟩) (mtT p t bl).1.length cap, .bool (mtT p t bl).2]) ∧ Below w.heap.size w w' ∧ BLi w' (mtT p t bl).1 (.slice (some ⟨b, 0, none⟩) (mtT p t bl).1.length cap)
theorem info62s : (Try.prog.info? 62).map (fun i => (i.zero, i.size, i.bytes)) = some (some (.agg #[.string ByteArray.empty, .string ByteArray.empty, .string ByteArray.empty, .bool false, .slice none 0 0]), 5, 80) := by kernel_rfl
theorem bel_grown {B b : Nat} {w wq w2 : World} (hB : B ≤ w.heap.size) (h : Below B w wq) (hb : B ≤ b) (hg : wq.grownBy w2 (some b)) : Below B w w2 :=
  ⟨hg.os.trans h.os, hg.tape.trans h.tape, hg.output.trans h.output, Nat.le_trans h.size hg.size, fun q hq => (hg.block q (by have := h.size; omega) (fun e => by injection e with e; omega)).trans (h.block q hq)⟩
set_option maxHeartbeats 3200000 in
theorem mtV34 (n x : ByteArray) (lf : Bool) (k : List Tr) (hvr : vrB n lf = true) (t : Tr) (a : Option Addr) (m cap : Nat) (tv bv : Value) (bl : List (ByteArray × Tr)) (w : World) (ht : Lies w (fun _ => True) t tv) (hb : BLi w bl bv) (hn : bl.length + 1 ≤ 1000000) :
    Calls Try.prog 34 #[(⟨n, x, lf, k⟩ : Tr).val (.slice a m cap), t.val tv, bv] w (MtA ⟨n, x, lf, k⟩ t bl w) := by
  obtain ⟨y1, y2, y3, rfl⟩ := ht.form
  have hbl := hb
  obtain ⟨b0, c0, sv, rfl, ho, hs, hl⟩ := hb
  have HR := (show Hid (∀ R : List (ByteArray × Tr) × Bool, mtV x t bl = R → ∀ (b cp : Nat) (w' : World), Below w.heap.size w w' → BLi w' R.1 (.slice (some ⟨b, 0, none⟩) R.1.length cp) → MtA ⟨n, x, lf, k⟩ t bl w (.returned (.tuple #[.slice (some ⟨b, 0, none⟩) R.1.length cp, .bool R.2])) w') from fun R hR b cp w' h1 h2 => by
    subst hR
    have e : mtT ⟨n, x, lf, k⟩ t bl = mtV x t bl := by rw [mtT_mk, if_pos hvr]
    unfold MtA
    rw [e]
    exact ⟨b, cp, rfl, h1, h2⟩)
  simp only [Tr.val]
  have hba := bel_trans (bel_alloc w (.cells #[.string n, .string x, .bool lf, .slice a m cap] 31)) (bel_alloc (w.alloc (.cells #[.string n, .string x, .bool lf, .slice a m cap] 31)) (.cells #[.string t.name, .string t.text, .bool t.leaf, .slice y1 y2 y3] 31))
  have HV := (show Hid _ from var70 ⟨n, x, lf, k⟩ (.slice a m cap) ((w.alloc (.cells #[.string n, .string x, .bool lf, .slice a m cap] 31)).alloc (.cells #[.string t.name, .string t.text, .bool t.leaf, .slice y1 y2 y3] 31)) rfl)
  simp only [Tr.val] at HV
  rw [hvr] at HV
  have HX1 := (show Hid (Box ((w.alloc (.cells #[.string n, .string x, .bool lf, .slice a m cap] 31)).alloc (.cells #[.string t.name, .string t.text, .bool t.leaf, .slice y1 y2 y3] 31)) w.heap.size 31 [.string n, .string x, .bool lf, .slice a m cap]) from (Box.new w 31 _).still (bel_alloc _ _))
  have HX2 := (show Hid (Box ((w.alloc (.cells #[.string n, .string x, .bool lf, .slice a m cap] 31)).alloc (.cells #[.string t.name, .string t.text, .bool t.leaf, .slice y1 y2 y3] 31)) (w.heap.size + 1) 31 [.string t.name, .string t.text, .bool t.leaf, .slice y1 y2 y3]) from (by
    have h := Box.new (w.alloc (.cells #[.string n, .string x, .bool lf, .slice a m cap] 31)) 31 [.string t.name, .string t.text, .bool t.leaf, .slice y1 y2 y3]
    rw [show (w.alloc (.cells #[.string n, .string x, .bool lf, .slice a m cap] 31)).heap.size = w.heap.size + 1 from by simp] at h
    exact h))
  have HBL := (show Hid (BLi w bl (.slice (some ⟨b0, 0, none⟩) bl.length c0)) from hbl)
  have HBA := (show Hid _ from hba)
  have HO := (show Hid _ from ho)
  have HSV := (show Hid _ from hs)
  have HL := (show Hid _ from hl)
  have HT := (show Hid (Lies w (fun _ => True) t (.slice y1 y2 y3)) from ht)
  clear hbl hba ho hs hl ht hvr
  go_enter Try.func34, Try.ntmps34
  go_wp2_with fail
  refine Calls.mono HV.out ?_
  rintro e w1 ⟨rfl, hb1⟩
  have hbw := bel_trans HBA.out hb1
  have bx1 := HX1.out.still hb1
  have bx2 := HX2.out.still hb1
  have HS := (show Hid (∀ w' : World, Below w1.heap.size w1 w' → (fun wq => wq.cell? ⟨w.heap.size, 1, none⟩ = some (.string x) ∧ wq.cell? ⟨w.heap.size + 1, 0, none⟩ = some (.string t.name) ∧ wq.cell? ⟨w.heap.size + 1, 1, none⟩ = some (.string t.text) ∧ wq.cell? ⟨w.heap.size + 1, 2, none⟩ = some (.bool t.leaf) ∧ wq.cell? ⟨w.heap.size + 1, 3, none⟩ = some (.slice y1 y2 y3)) w') from fun w' h => ⟨(bx1.still h).cell 1 (by simp), (bx2.still h).cell 0 (by simp), (bx2.still h).cell 1 (by simp), (bx2.still h).cell 2 (by simp), (bx2.still h).cell 3 (by simp)⟩)
  have T1 : w1.cell? ⟨w.heap.size, 1, none⟩ = some (.string x) := bx1.cell 1 (by simp)
  have HFD := (show Hid _ from find48 bl x _ w1 (HBL.out.still hbw))
  have HBW := (show Hid _ from hbw)
  clear hb1 HV HX1 HX2 HBA bx1 bx2 hbw
  go_wp2_with fail
  refine Calls.mono HFD.out ?_
  rintro e w1' ⟨i, rfl, hfd, hw1⟩
  subst w1'
  rcases hfd with ⟨rfl, hlk⟩ | ⟨j, hj, rfl, hlk⟩
  · have HFN := (show Hid (∀ (w4 : World) (g4 cap4 : Nat), Below w1.heap.size w1 w4 → w4.ownsRow w1.heap.size 62 5 (.slice (some ⟨g4, 0, none⟩) (bl.length + 1) cap4) (bl.length + 1) (bcs bl sv bl.length ++ [.string x, .string t.name, .string t.text, .bool t.leaf, .slice y1 y2 y3]) → MtA ⟨n, x, lf, k⟩ t bl w (.returned (.tuple #[.slice (some ⟨g4, 0, none⟩) (bl.length + 1) cap4, .bool true])) w4) from fun w4 g4 cap4 h4 ho4 => by
      have hb4 := bel_trans HBW.out h4
      have h := HR.out (bl ++ [(x, t)], true) (by unfold mtV; rw [hlk]) g4 cap4 w4 hb4
      have hlen : (bl ++ [(x, t)]).length = bl.length + 1 := by simp
      dsimp only at h
      rw [hlen] at h
      exact h (BLi.add (b := 0) (cap := 0) HSV.out HL.out hb4 HT.out ⟨_, _, _, rfl⟩ ho4))
    have HNW := (show Hid (∀ wq : World, Below w1.heap.size w1 wq → ∀ j u, (bcs bl sv bl.length)[j]? = some u → wq.cell? ((⟨b0, 0, none⟩ : Addr).add j) = some u) from fun wq h j u hu => by
      have hadd : (⟨b0, 0, none⟩ : Addr).add j = ⟨b0, j, none⟩ := by unfold Addr.add; split <;> simp_all
      have hown := own_still HO.out (bel_trans HBW.out h)
      rw [hadd, World.ownsRow.cellAt hown _ (by have := (List.getElem?_eq_some_iff.1 hu).1; rw [bcs_len] at this; exact this), hu])
    have HONE := (show Hid (∀ u ∈ bcs bl sv bl.length, u.oneCell' = true) from bcs_one bl sv (fun i => by obtain ⟨_, _, _, e⟩ := HSV.out i; rw [e]; rfl) _)
    have HG := (show Hid (∀ (wq : World) (b : Nat) (w2 : World), Below w1.heap.size w1 wq → w1.heap.size ≤ b → wq.grownBy w2 (some b) → Below w1.heap.size w1 w2) from fun wq b w2 h1 h2 h3 => bel_grown (Nat.le_refl _) h1 h2 h3)
    have hd0 : Below w1.heap.size w1 w1.drew := (Below.refl _ _).drew
    have hA0 : Below w1.heap.size w1 (w1.drew.alloc (.cells #[] 62)) := hd0.alloc (Nat.le_refl _) _
    have hA1 : Below w1.heap.size w1 ((w1.drew.alloc (.cells #[] 62)).alloc (.cells #[.string x, .string t.name, .string t.text, .bool t.leaf, .slice y1 y2 y3] 62)) := hA0.alloc hA0.size _
    have hB0 : Below w1.heap.size w1 (w1.drew.alloc (.cells #[.string x, .string t.name, .string t.text, .bool t.leaf, .slice y1 y2 y3] 62)) := hd0.alloc (Nat.le_refl _) _
    have hB1 : Below w1.heap.size w1 ((w1.drew.alloc (.cells #[.string x, .string t.name, .string t.text, .bool t.leaf, .slice y1 y2 y3] 62)).alloc (.cells #[] 62)) := hB0.alloc hB0.size _
    have hAo : (w1.drew.alloc (.cells #[] 62)).ownsRow w1.heap.size 62 5 (.slice (some ⟨w1.heap.size, 0, none⟩) 0 0) 0 [] := World.ownsRow_made w1.drew #[] 0 (Nat.le_refl _) (Nat.zero_le _) rfl
    have hAo1 : ((w1.drew.alloc (.cells #[] 62)).alloc (.cells #[.string x, .string t.name, .string t.text, .bool t.leaf, .slice y1 y2 y3] 62)).ownsRow w1.heap.size 62 5 (.slice (some ⟨w1.heap.size, 0, none⟩) 0 0) 0 [] := own_still hAo (bel_alloc _ _)
    have hAf : ((w1.drew.alloc (.cells #[] 62)).alloc (.cells #[.string x, .string t.name, .string t.text, .bool t.leaf, .slice y1 y2 y3] 62)).heap[w1.heap.size + 1]? = some (.cells #[.string x, .string t.name, .string t.text, .bool t.leaf, .slice y1 y2 y3] 62) := by
      have h := blk_alloc_new (w1.drew.alloc (.cells #[] 62)) (.cells #[.string x, .string t.name, .string t.text, .bool t.leaf, .slice y1 y2 y3] 62)
      rw [show (w1.drew.alloc (.cells #[] 62)).heap.size = w1.heap.size + 1 from by simp] at h
      exact h
    have hBo : ((w1.drew.alloc (.cells #[.string x, .string t.name, .string t.text, .bool t.leaf, .slice y1 y2 y3] 62)).alloc (.cells #[] 62)).ownsRow w1.heap.size 62 5 (.slice (some ⟨w1.heap.size + 1, 0, none⟩) 0 0) 0 [] := by
      have h := World.ownsRow_made (e := 62) (size := 5) (base := w1.heap.size) (w1.drew.alloc (.cells #[.string x, .string t.name, .string t.text, .bool t.leaf, .slice y1 y2 y3] 62)) #[] 0 hB0.size (Nat.zero_le _) rfl
      rw [show (w1.drew.alloc (.cells #[.string x, .string t.name, .string t.text, .bool t.leaf, .slice y1 y2 y3] 62)).heap.size = w1.heap.size + 1 from by simp] at h
      exact h
    have hBf : ((w1.drew.alloc (.cells #[.string x, .string t.name, .string t.text, .bool t.leaf, .slice y1 y2 y3] 62)).alloc (.cells #[] 62)).heap[w1.heap.size]? = some (.cells #[.string x, .string t.name, .string t.text, .bool t.leaf, .slice y1 y2 y3] 62) := by
      have h := blk_alloc_new w1.drew (.cells #[.string x, .string t.name, .string t.text, .bool t.leaf, .slice y1 y2 y3] 62)
      exact ((bel_alloc (w1.drew.alloc (.cells #[.string x, .string t.name, .string t.text, .bool t.leaf, .slice y1 y2 y3] 62)) (.cells #[] 62)).block w1.heap.size (by simp)).trans h
    obtain ⟨i62, hi62, hz0, hz1, hz2⟩ := info_parts info62s
    clear HR HSV HL HT HO HBL HFD hlk
    go_wp2_with fail
    refine wp_region_held_drew (S := (fun wq => wq.cell? ⟨w.heap.size, 1, none⟩ = some (.string x) ∧ wq.cell? ⟨w.heap.size + 1, 0, none⟩ = some (.string t.name) ∧ wq.cell? ⟨w.heap.size + 1, 1, none⟩ = some (.string t.text) ∧ wq.cell? ⟨w.heap.size + 1, 2, none⟩ = some (.bool t.leaf) ∧ wq.cell? ⟨w.heap.size + 1, 3, none⟩ = some (.slice y1 y2 y3))) (by kernel_rfl) (HS.out _ hd0) (fun hHeld => ?_)
    refine wpAnyH_take (i := 1) (oi := { dst := some 28, op := Go.Op.move (Go.Operand.tmp 2), type := 26, pos := "l11_rewriting.go:45", after := #[], guard := none }) (v := ?v1) rfl (by kernel_rfl) (by kernel_rfl) (by kernel_rfl) (fun _ _ _ h => h) (Or.inl ⟨by rfl, ?h1⟩) hHeld ?r1
    case h1 => (intro w hSw; (try dsimp only at hSw); go_simp; try with_reducible rfl)
    try simp only [Act.put, List.setIfInBounds_toArray, List.set_cons_zero, List.set_cons_succ]
    refine wpAnyH_take (i := 3) (oi := { dst := some 30, op := Go.Op.fieldAddr 31 (Go.Operand.tmp 3) 1, type := 0, pos := "l11_rewriting.go:45", after := #[], guard := none }) (v := ?v2) rfl (by kernel_rfl) (by kernel_rfl) (by kernel_rfl) (fun _ _ _ h => h) (Or.inl ⟨by rfl, ?h2⟩) hHeld ?r2
    case h2 => (intro w hSw; (try dsimp only at hSw); go_simp; try with_reducible rfl)
    try simp only [Act.put, List.setIfInBounds_toArray, List.set_cons_zero, List.set_cons_succ]
    refine wpAnyH_take (i := 4) (oi := { dst := some 31, op := Go.Op.load 9 (Go.Operand.tmp 30), type := 9, pos := "l11_rewriting.go:45", after := #[{ on := 3, ground := Go.Ground.data }], guard := none }) (v := ?v3) rfl (by kernel_rfl) (by kernel_rfl) (by kernel_rfl) (fun _ _ _ h => h) (Or.inl ⟨by rfl, ?h3⟩) hHeld ?r3
    case h3 => (intro w hSw; (try dsimp only at hSw); go_simp; try with_reducible rfl)
    try simp only [Act.put, List.setIfInBounds_toArray, List.set_cons_zero, List.set_cons_succ]
    refine wpAnyH_take (i := 5) (oi := { dst := some 32, op := Go.Op.load 31 (Go.Operand.tmp 4), type := 31, pos := "l11_rewriting.go:45", after := #[], guard := none }) (v := ?v4) rfl (by kernel_rfl) (by kernel_rfl) (by kernel_rfl) (fun _ _ _ h => h) (Or.inl ⟨by rfl, ?h4⟩) hHeld ?r4
    case h4 => (intro w hSw; (try dsimp only at hSw); go_simp; try with_reducible rfl)
    try simp only [Act.put, List.setIfInBounds_toArray, List.set_cons_zero, List.set_cons_succ]
    refine wpAnyH_take (i := 6) (oi := { dst := some 33, op := Go.Op.build 62 #[(0, Go.Operand.tmp 31), (1, Go.Operand.tmp 32)], type := 62, pos := "l11_rewriting.go:45", after := #[{ on := 4, ground := Go.Ground.data }, { on := 5, ground := Go.Ground.data }], guard := none }) (v := ?v5) rfl (by kernel_rfl) (by kernel_rfl) (by kernel_rfl) (fun _ _ _ h => h) (Or.inl ⟨by rfl, ?h5⟩) hHeld ?r5
    case h5 => (intro w hSw; (try dsimp only at hSw); go_simp; try with_reducible rfl)
    try simp only [Act.put, List.setIfInBounds_toArray, List.set_cons_zero, List.set_cons_succ]
    refine wpAnyH_ready (rs := [0, 7]) (by kernel_rfl) (by simp) ?_
    refine (AllReadyH.cons (o := { dst := some 27, op := Go.Op.buildSlice 26 0 #[], type := 26, pos := "l11_rewriting.go:45", after := #[], guard := none }) rfl (fun K hK => ?_) (AllReadyH.cons (o := { dst := some 34, op := Go.Op.buildSlice 26 1 #[(0, Go.Operand.tmp 33)], type := 26, pos := "l11_rewriting.go:45", after := #[{ on := 6, ground := Go.Ground.data }], guard := none }) rfl (fun K hK => ?_) AllReadyH.nil))
    · go_simp
      clear hHeld
      refine hK.out _ _ (HS.out _ hA0) (fun hHeld => ?_)
      clear hK K
      try simp only [Act.put, List.setIfInBounds_toArray, List.set_cons_zero, List.set_cons_succ]
      refine wpAnyH_ready (rs := [2, 7]) (by kernel_rfl) (by simp) ?_
      refine (AllReadyH.cons (o := { dst := some 29, op := Go.Op.call { callee := Go.Callee.builtin Go.Builtin.append, args := #[Go.Operand.tmp 27, Go.Operand.tmp 28], argTypes := #[26, 26] }, type := 26, pos := "l11_rewriting.go:45", after := #[{ on := 0, ground := Go.Ground.data }, { on := 1, ground := Go.Ground.data }], guard := none }) rfl (fun K hK => ?_) (AllReadyH.cons (o := { dst := some 34, op := Go.Op.buildSlice 26 1 #[(0, Go.Operand.tmp 33)], type := 26, pos := "l11_rewriting.go:45", after := #[{ on := 6, ground := Go.Ground.data }], guard := none }) rfl (fun K hK => ?_) AllReadyH.nil))
      · -- append, then the new one
        (refine step_append_made _ rfl (.tmp 27) (.tmp 28) 26 rfl w1.heap.size 62 i62 _ 5 80 Try.underlying26 hi62 hz0 hz1 hz2 rfl (by decide) w1.heap.size (by simp [Act.eval, Act.put]) hAo ⟨b0, 0, none⟩ bl.length c0 (bcs bl sv bl.length) (by simp [Act.eval, Act.put]) (bcs_len _ _ _) (HNW.out _ hA0) HONE.out (by unfold maxLen; omega) (by omega) hA0.size ?_; intro g2 cap2 w2 hown2 hgr2; have hb2 := HG.out _ _ _ hA0 (by simp) hgr2)
        clear hHeld
        refine hK.out _ _ (HS.out _ hb2) (fun hHeld => ?_)
        clear hK K
        try simp only [Act.put, List.setIfInBounds_toArray, List.set_cons_zero, List.set_cons_succ]
        refine wpAnyH_ready (rs := [7]) (by kernel_rfl) (by simp) ?_
        refine (AllReadyH.cons (o := { dst := some 34, op := Go.Op.buildSlice 26 1 #[(0, Go.Operand.tmp 33)], type := 26, pos := "l11_rewriting.go:45", after := #[{ on := 6, ground := Go.Ground.data }], guard := none }) rfl (fun K hK => ?_) AllReadyH.nil)
        go_simp
        have hb3 := hb2.alloc hb2.size (.cells #[.string x, .string t.name, .string t.text, .bool t.leaf, .slice y1 y2 y3] 62)
        have hown3 := own_still hown2 (bel_alloc w2 (.cells #[.string x, .string t.name, .string t.text, .bool t.leaf, .slice y1 y2 y3] 62))
        clear hHeld
        refine hK.out _ _ (HS.out _ hb3) (fun hHeld => ?_)
        clear hK K
        try simp only [Act.put, List.setIfInBounds_toArray, List.set_cons_zero, List.set_cons_succ]
        refine wpAnyH_ready (rs := [8]) (by kernel_rfl) (by simp) ?_
        refine (AllReadyH.cons (o := { dst := some 35, op := Go.Op.call { callee := Go.Callee.builtin Go.Builtin.append, args := #[Go.Operand.tmp 29, Go.Operand.tmp 34], argTypes := #[26, 26] }, type := 26, pos := "l11_rewriting.go:45", after := #[{ on := 2, ground := Go.Ground.data }, { on := 7, ground := Go.Ground.data }, { on := 2, ground := Go.Ground.chain }], guard := none }) rfl (fun K hK => ?_) AllReadyH.nil)
        (refine step_append_lies _ rfl (.tmp 29) (.tmp 34) 26 rfl w1.heap.size 62 i62 _ 5 80 Try.underlying26 hi62 hz0 hz1 hz2 rfl (by decide) _ bl.length (bcs bl sv bl.length) (by simp [Act.eval, Act.put]) hown3 ⟨w2.heap.size, 0, none⟩ 1 1 [.string x, .string t.name, .string t.text, .bool t.leaf, .slice y1 y2 y3] (by simp [Act.eval, Act.put]) rfl (World.news_of_block (cs := #[.string x, .string t.name, .string t.text, .bool t.leaf, .slice y1 y2 y3]) (blk_alloc_new _ _)) (by intro y hy; simp at hy; rcases hy with rfl | rfl | rfl | rfl | rfl <;> rfl) (by decide) (by unfold maxLen; omega) (by omega) hb3.size _ rfl ?_; intro g4 cap4 w4 hown4 hgr4 hat4 hlt4; have hb4 := HG.out _ _ _ hb3 (World.ownsRow.lt hown2 _ rfl).1 hgr4; have HE := (show Hid _ from HFN.out w4 g4 cap4 hb4 hown4); clear hown4 hgr4 hat4 hlt4 hown2 hgr2)
        clear hHeld
        refine hK.out _ _ (HS.out _ hb4) (fun hHeld => ?_)
        clear hK K
        try simp only [Act.put, List.setIfInBounds_toArray, List.set_cons_zero, List.set_cons_succ]
        refine wpAnyH_take (i := 9) (oi := { dst := some 6, op := Go.Op.assign (Go.Operand.tmp 35), type := 26, pos := "l11_rewriting.go:45", after := #[{ on := 8, ground := Go.Ground.data }, { on := 8, ground := Go.Ground.chain }, { on := 0, ground := Go.Ground.phase }, { on := 1, ground := Go.Ground.phase }, { on := 2, ground := Go.Ground.phase }, { on := 3, ground := Go.Ground.phase }, { on := 4, ground := Go.Ground.phase }, { on := 5, ground := Go.Ground.phase }, { on := 6, ground := Go.Ground.phase }, { on := 7, ground := Go.Ground.phase }, { on := 8, ground := Go.Ground.phase }], guard := none }) (v := ?v6) rfl (by kernel_rfl) (by kernel_rfl) (by kernel_rfl) (fun _ _ _ h => h) (Or.inl ⟨by rfl, ?h6⟩) hHeld ?r6
        case h6 => (intro w hSw; (try dsimp only at hSw); go_simp; try with_reducible rfl)
        try simp only [Act.put, List.setIfInBounds_toArray, List.set_cons_zero, List.set_cons_succ]
        refine wpAnyH_take (i := 10) (oi := { dst := some 7, op := Go.Op.assign (Go.Operand.const (Go.Value.bool true)), type := 4, pos := "l11_rewriting.go:45", after := #[{ on := 9, ground := Go.Ground.chain }, { on := 0, ground := Go.Ground.phase }, { on := 1, ground := Go.Ground.phase }, { on := 2, ground := Go.Ground.phase }, { on := 3, ground := Go.Ground.phase }, { on := 4, ground := Go.Ground.phase }, { on := 5, ground := Go.Ground.phase }, { on := 6, ground := Go.Ground.phase }, { on := 7, ground := Go.Ground.phase }, { on := 8, ground := Go.Ground.phase }, { on := 9, ground := Go.Ground.phase }], guard := none }) (v := ?v7) rfl (by kernel_rfl) (by kernel_rfl) (by kernel_rfl) (fun _ _ _ h => h) (Or.inl ⟨by rfl, ?h7⟩) hHeld ?r7
        case h7 => (intro w hSw; (try dsimp only at hSw); go_simp; try with_reducible rfl)
        try simp only [Act.put, List.setIfInBounds_toArray, List.set_cons_zero, List.set_cons_succ]
        refine wpAnyH_done (by kernel_rfl) ?_ _
        go_wp2_with fail
        go_ret2
        exact HE.out
      · go_simp
        clear hHeld
        refine hK.out _ _ (HS.out _ hA1) (fun hHeld => ?_)
        clear hK K
        try simp only [Act.put, List.setIfInBounds_toArray, List.set_cons_zero, List.set_cons_succ]
        refine wpAnyH_ready (rs := [2]) (by kernel_rfl) (by simp) ?_
        refine (AllReadyH.cons (o := { dst := some 29, op := Go.Op.call { callee := Go.Callee.builtin Go.Builtin.append, args := #[Go.Operand.tmp 27, Go.Operand.tmp 28], argTypes := #[26, 26] }, type := 26, pos := "l11_rewriting.go:45", after := #[{ on := 0, ground := Go.Ground.data }, { on := 1, ground := Go.Ground.data }], guard := none }) rfl (fun K hK => ?_) AllReadyH.nil)
        (refine step_append_made _ rfl (.tmp 27) (.tmp 28) 26 rfl w1.heap.size 62 i62 _ 5 80 Try.underlying26 hi62 hz0 hz1 hz2 rfl (by decide) w1.heap.size (by simp [Act.eval, Act.put]) hAo1 ⟨b0, 0, none⟩ bl.length c0 (bcs bl sv bl.length) (by simp [Act.eval, Act.put]) (bcs_len _ _ _) (HNW.out _ hA1) HONE.out (by unfold maxLen; omega) (by omega) hA1.size ?_; intro g2 cap2 w2 hown2 hgr2; have hb2 := HG.out _ _ _ hA1 (by simp) hgr2)
        have hf2 := (hgr2.block (w1.heap.size + 1) (by simp) (by simp)).trans hAf
        clear hHeld
        refine hK.out _ _ (HS.out _ hb2) (fun hHeld => ?_)
        clear hK K
        try simp only [Act.put, List.setIfInBounds_toArray, List.set_cons_zero, List.set_cons_succ]
        refine wpAnyH_ready (rs := [8]) (by kernel_rfl) (by simp) ?_
        refine (AllReadyH.cons (o := { dst := some 35, op := Go.Op.call { callee := Go.Callee.builtin Go.Builtin.append, args := #[Go.Operand.tmp 29, Go.Operand.tmp 34], argTypes := #[26, 26] }, type := 26, pos := "l11_rewriting.go:45", after := #[{ on := 2, ground := Go.Ground.data }, { on := 7, ground := Go.Ground.data }, { on := 2, ground := Go.Ground.chain }], guard := none }) rfl (fun K hK => ?_) AllReadyH.nil)
        (refine step_append_lies _ rfl (.tmp 29) (.tmp 34) 26 rfl w1.heap.size 62 i62 _ 5 80 Try.underlying26 hi62 hz0 hz1 hz2 rfl (by decide) _ bl.length (bcs bl sv bl.length) (by simp [Act.eval, Act.put]) hown2 ⟨w1.heap.size + 1, 0, none⟩ 1 1 [.string x, .string t.name, .string t.text, .bool t.leaf, .slice y1 y2 y3] (by simp [Act.eval, Act.put]) rfl (World.news_of_block (cs := #[.string x, .string t.name, .string t.text, .bool t.leaf, .slice y1 y2 y3]) hf2) (by intro y hy; simp at hy; rcases hy with rfl | rfl | rfl | rfl | rfl <;> rfl) (by decide) (by unfold maxLen; omega) (by omega) hb2.size _ rfl ?_; intro g4 cap4 w4 hown4 hgr4 hat4 hlt4; have hb4 := HG.out _ _ _ hb2 (World.ownsRow.lt hown2 _ rfl).1 hgr4; have HE := (show Hid _ from HFN.out w4 g4 cap4 hb4 hown4); clear hown4 hgr4 hat4 hlt4 hown2 hgr2)
        clear hHeld
        refine hK.out _ _ (HS.out _ hb4) (fun hHeld => ?_)
        clear hK K
        try simp only [Act.put, List.setIfInBounds_toArray, List.set_cons_zero, List.set_cons_succ]
        refine wpAnyH_take (i := 9) (oi := { dst := some 6, op := Go.Op.assign (Go.Operand.tmp 35), type := 26, pos := "l11_rewriting.go:45", after := #[{ on := 8, ground := Go.Ground.data }, { on := 8, ground := Go.Ground.chain }, { on := 0, ground := Go.Ground.phase }, { on := 1, ground := Go.Ground.phase }, { on := 2, ground := Go.Ground.phase }, { on := 3, ground := Go.Ground.phase }, { on := 4, ground := Go.Ground.phase }, { on := 5, ground := Go.Ground.phase }, { on := 6, ground := Go.Ground.phase }, { on := 7, ground := Go.Ground.phase }, { on := 8, ground := Go.Ground.phase }], guard := none }) (v := ?v8) rfl (by kernel_rfl) (by kernel_rfl) (by kernel_rfl) (fun _ _ _ h => h) (Or.inl ⟨by rfl, ?h8⟩) hHeld ?r8
        case h8 => (intro w hSw; (try dsimp only at hSw); go_simp; try with_reducible rfl)
        try simp only [Act.put, List.setIfInBounds_toArray, List.set_cons_zero, List.set_cons_succ]
        refine wpAnyH_take (i := 10) (oi := { dst := some 7, op := Go.Op.assign (Go.Operand.const (Go.Value.bool true)), type := 4, pos := "l11_rewriting.go:45", after := #[{ on := 9, ground := Go.Ground.chain }, { on := 0, ground := Go.Ground.phase }, { on := 1, ground := Go.Ground.phase }, { on := 2, ground := Go.Ground.phase }, { on := 3, ground := Go.Ground.phase }, { on := 4, ground := Go.Ground.phase }, { on := 5, ground := Go.Ground.phase }, { on := 6, ground := Go.Ground.phase }, { on := 7, ground := Go.Ground.phase }, { on := 8, ground := Go.Ground.phase }, { on := 9, ground := Go.Ground.phase }], guard := none }) (v := ?v9) rfl (by kernel_rfl) (by kernel_rfl) (by kernel_rfl) (fun _ _ _ h => h) (Or.inl ⟨by rfl, ?h9⟩) hHeld ?r9
        case h9 => (intro w hSw; (try dsimp only at hSw); go_simp; try with_reducible rfl)
        try simp only [Act.put, List.setIfInBounds_toArray, List.set_cons_zero, List.set_cons_succ]
        refine wpAnyH_done (by kernel_rfl) ?_ _
        go_wp2_with fail
        go_ret2
        exact HE.out
    · go_simp
      clear hHeld
      refine hK.out _ _ (HS.out _ hB0) (fun hHeld => ?_)
      clear hK K
      try simp only [Act.put, List.setIfInBounds_toArray, List.set_cons_zero, List.set_cons_succ]
      refine wpAnyH_ready (rs := [0]) (by kernel_rfl) (by simp) ?_
      refine (AllReadyH.cons (o := { dst := some 27, op := Go.Op.buildSlice 26 0 #[], type := 26, pos := "l11_rewriting.go:45", after := #[], guard := none }) rfl (fun K hK => ?_) AllReadyH.nil)
      go_simp
      clear hHeld
      refine hK.out _ _ (HS.out _ hB1) (fun hHeld => ?_)
      clear hK K
      try simp only [Act.put, List.setIfInBounds_toArray, List.set_cons_zero, List.set_cons_succ]
      refine wpAnyH_ready (rs := [2]) (by kernel_rfl) (by simp) ?_
      refine (AllReadyH.cons (o := { dst := some 29, op := Go.Op.call { callee := Go.Callee.builtin Go.Builtin.append, args := #[Go.Operand.tmp 27, Go.Operand.tmp 28], argTypes := #[26, 26] }, type := 26, pos := "l11_rewriting.go:45", after := #[{ on := 0, ground := Go.Ground.data }, { on := 1, ground := Go.Ground.data }], guard := none }) rfl (fun K hK => ?_) AllReadyH.nil)
      (refine step_append_made _ rfl (.tmp 27) (.tmp 28) 26 rfl w1.heap.size 62 i62 _ 5 80 Try.underlying26 hi62 hz0 hz1 hz2 rfl (by decide) (w1.heap.size + 1) (by simp [Act.eval, Act.put]) hBo ⟨b0, 0, none⟩ bl.length c0 (bcs bl sv bl.length) (by simp [Act.eval, Act.put]) (bcs_len _ _ _) (HNW.out _ hB1) HONE.out (by unfold maxLen; omega) (by omega) hB1.size ?_; intro g2 cap2 w2 hown2 hgr2; have hb2 := HG.out _ _ _ hB1 (by simp) hgr2)
      have hf2 := (hgr2.block w1.heap.size (by simp; omega) (by simp)).trans hBf
      clear hHeld
      refine hK.out _ _ (HS.out _ hb2) (fun hHeld => ?_)
      clear hK K
      try simp only [Act.put, List.setIfInBounds_toArray, List.set_cons_zero, List.set_cons_succ]
      refine wpAnyH_ready (rs := [8]) (by kernel_rfl) (by simp) ?_
      refine (AllReadyH.cons (o := { dst := some 35, op := Go.Op.call { callee := Go.Callee.builtin Go.Builtin.append, args := #[Go.Operand.tmp 29, Go.Operand.tmp 34], argTypes := #[26, 26] }, type := 26, pos := "l11_rewriting.go:45", after := #[{ on := 2, ground := Go.Ground.data }, { on := 7, ground := Go.Ground.data }, { on := 2, ground := Go.Ground.chain }], guard := none }) rfl (fun K hK => ?_) AllReadyH.nil)
      (refine step_append_lies _ rfl (.tmp 29) (.tmp 34) 26 rfl w1.heap.size 62 i62 _ 5 80 Try.underlying26 hi62 hz0 hz1 hz2 rfl (by decide) _ bl.length (bcs bl sv bl.length) (by simp [Act.eval, Act.put]) hown2 ⟨w1.heap.size, 0, none⟩ 1 1 [.string x, .string t.name, .string t.text, .bool t.leaf, .slice y1 y2 y3] (by simp [Act.eval, Act.put]) rfl (World.news_of_block (cs := #[.string x, .string t.name, .string t.text, .bool t.leaf, .slice y1 y2 y3]) hf2) (by intro y hy; simp at hy; rcases hy with rfl | rfl | rfl | rfl | rfl <;> rfl) (by decide) (by unfold maxLen; omega) (by omega) hb2.size _ rfl ?_; intro g4 cap4 w4 hown4 hgr4 hat4 hlt4; have hb4 := HG.out _ _ _ hb2 (World.ownsRow.lt hown2 _ rfl).1 hgr4; have HE := (show Hid _ from HFN.out w4 g4 cap4 hb4 hown4); clear hown4 hgr4 hat4 hlt4 hown2 hgr2)
      clear hHeld
      refine hK.out _ _ (HS.out _ hb4) (fun hHeld => ?_)
      clear hK K
      try simp only [Act.put, List.setIfInBounds_toArray, List.set_cons_zero, List.set_cons_succ]
      refine wpAnyH_take (i := 9) (oi := { dst := some 6, op := Go.Op.assign (Go.Operand.tmp 35), type := 26, pos := "l11_rewriting.go:45", after := #[{ on := 8, ground := Go.Ground.data }, { on := 8, ground := Go.Ground.chain }, { on := 0, ground := Go.Ground.phase }, { on := 1, ground := Go.Ground.phase }, { on := 2, ground := Go.Ground.phase }, { on := 3, ground := Go.Ground.phase }, { on := 4, ground := Go.Ground.phase }, { on := 5, ground := Go.Ground.phase }, { on := 6, ground := Go.Ground.phase }, { on := 7, ground := Go.Ground.phase }, { on := 8, ground := Go.Ground.phase }], guard := none }) (v := ?v10) rfl (by kernel_rfl) (by kernel_rfl) (by kernel_rfl) (fun _ _ _ h => h) (Or.inl ⟨by rfl, ?h10⟩) hHeld ?r10
      case h10 => (intro w hSw; (try dsimp only at hSw); go_simp; try with_reducible rfl)
      try simp only [Act.put, List.setIfInBounds_toArray, List.set_cons_zero, List.set_cons_succ]
      refine wpAnyH_take (i := 10) (oi := { dst := some 7, op := Go.Op.assign (Go.Operand.const (Go.Value.bool true)), type := 4, pos := "l11_rewriting.go:45", after := #[{ on := 9, ground := Go.Ground.chain }, { on := 0, ground := Go.Ground.phase }, { on := 1, ground := Go.Ground.phase }, { on := 2, ground := Go.Ground.phase }, { on := 3, ground := Go.Ground.phase }, { on := 4, ground := Go.Ground.phase }, { on := 5, ground := Go.Ground.phase }, { on := 6, ground := Go.Ground.phase }, { on := 7, ground := Go.Ground.phase }, { on := 8, ground := Go.Ground.phase }, { on := 9, ground := Go.Ground.phase }], guard := none }) (v := ?v11) rfl (by kernel_rfl) (by kernel_rfl) (by kernel_rfl) (fun _ _ _ h => h) (Or.inl ⟨by rfl, ?h11⟩) hHeld ?r11
      case h11 => (intro w hSw; (try dsimp only at hSw); go_simp; try with_reducible rfl)
      try simp only [Act.put, List.setIfInBounds_toArray, List.set_cons_zero, List.set_cons_succ]
      refine wpAnyH_done (by kernel_rfl) ?_ _
      go_wp2_with fail
      go_ret2
      exact HE.out
  · have HFN := (show Hid (∀ (w4 : World), Below w1.heap.size w1 w4 → MtA ⟨n, x, lf, k⟩ t bl w (.returned (.tuple #[.slice (some ⟨b0, 0, none⟩) bl.length c0, .bool (eqT bl[j].2 t)])) w4) from fun w4 h4 => by
      have hb4 := bel_trans HBW.out h4
      exact HR.out (bl, eqT bl[j].2 t) (by unfold mtV; rw [hlk]) b0 c0 w4 hb4 (HBL.out.still hb4))
    have HSJ := (show Hid (∀ w' : World, Below w1.heap.size w1 w' → ∀ q1 q2 q3, sv j = .slice q1 q2 q3 → w'.cell? ⟨b0, j * 5 + 1, none⟩ = some (.string bl[j].2.name) ∧ w'.cell? ⟨b0, j * 5 + 2, none⟩ = some (.string bl[j].2.text) ∧ w'.cell? ⟨b0, j * 5 + 3, none⟩ = some (.bool bl[j].2.leaf) ∧ w'.cell? ⟨b0, j * 5 + 4, none⟩ = some (.slice q1 q2 q3) ∧ w'.cell? ⟨w.heap.size + 1, 0, none⟩ = some (.string t.name) ∧ w'.cell? ⟨w.heap.size + 1, 1, none⟩ = some (.string t.text) ∧ w'.cell? ⟨w.heap.size + 1, 2, none⟩ = some (.bool t.leaf) ∧ w'.cell? ⟨w.heap.size + 1, 3, none⟩ = some (.slice y1 y2 y3)) from fun w' h q1 q2 q3 hq => by
      have hown := own_still HO.out (bel_trans HBW.out h)
      obtain ⟨_, g1, g2, g3, g4⟩ := bcs_get bl sv bl.length j hj
      rw [nb_eq hj] at g1 g2 g3
      rw [hq] at g4
      exact ⟨by rw [World.ownsRow.cellAt hown _ (by omega), g1], by rw [World.ownsRow.cellAt hown _ (by omega), g2], by rw [World.ownsRow.cellAt hown _ (by omega), g3], by rw [World.ownsRow.cellAt hown _ (by omega), g4], (HS.out w' h).2⟩)
    obtain ⟨q1, q2, q3, hq⟩ := HSV.out j
    have hd0 : Below w1.heap.size w1 w1.drew := (Below.refl _ _).drew
    have hcl := same71 bl[j].2 t (sv j) (.slice y1 y2 y3) w1.drew ((HL.out j hj).still (bel_trans HBW.out hd0)) (HT.out.still (bel_trans HBW.out hd0))
    rw [hq] at hcl
    simp only [Tr.val] at hcl
    have HCL := (show Hid _ from hcl)
    have HSK := (show Hid _ from fun w' h => HSJ.out w' h q1 q2 q3 hq)
    have hS0 := HSK.out _ hd0
    have HD0 := (show Hid _ from hd0)
    have c1 : (0 : Int) ≤ (j : Int) := by omega
    have c2 : (j : Int) < (bl.length : Int) := by omega
    clear HR HSV HL HT HO HBL HFD hlk HSJ hcl hq hd0 HS T1
    generalize eqT bl[j].2 t = D at *
    generalize bl[j].2.name = m1 at *
    generalize bl[j].2.text = m2 at *
    generalize bl[j].2.leaf = m3 at *
    go_wp2_with fail
    go_region_held3 (fun wq => wq.cell? ⟨b0, j * 5 + 1, none⟩ = some (.string m1) ∧ wq.cell? ⟨b0, j * 5 + 2, none⟩ = some (.string m2) ∧ wq.cell? ⟨b0, j * 5 + 3, none⟩ = some (.bool m3) ∧ wq.cell? ⟨b0, j * 5 + 4, none⟩ = some (.slice q1 q2 q3) ∧ wq.cell? ⟨w.heap.size + 1, 0, none⟩ = some (.string t.name) ∧ wq.cell? ⟨w.heap.size + 1, 1, none⟩ = some (.string t.text) ∧ wq.cell? ⟨w.heap.size + 1, 2, none⟩ = some (.bool t.leaf) ∧ wq.cell? ⟨w.heap.size + 1, 3, none⟩ = some (.slice y1 y2 y3)) (first | with_reducible exact hS0 | with_reducible exact hS1) ((first | (go_at_call 71; refine Calls.mono HCL.out ?_; rintro e w2 ⟨rfl, hb2⟩; have hx1 : Below w1.heap.size w1 w2 := HD0.out.trans (hb2.mono (Nat.le_refl _)); have hS1 := HSK.out w2 hx1)))
    have HE := (show Hid _ from HFN.out w2 hx1)
    clear hS0 hS1 hb2 hx1
    go_wp2_with fail
    go_ret2
    exact HE.out
end Go.Proofs.Yteomgkcgjkbppaa
