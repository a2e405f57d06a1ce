import Derived.Test.YthmdoplickpmaaiPut2
import Derived.Deep.RegionHeld3
namespace Go.Proofs.Ythmdoplickpmaai
open Go.RowKit Go.Deep Go.Lib
set_option linter.unusedVariables false
set_option maxRecDepth 100000
set_option linter.unusedSimpArgs false

set_option maxHeartbeats 800000 in
theorem lput_any (l : List Int) : ∀ (S : Nat → Prop) (t u o : Tr) (v pv uv : Value) (w : World), Lies w S t v → Ints w (fun _ => True) l pv → Lies w S u uv → putAt l t u = some o → t.wt ≤ 1048576 →
    Calls Try.prog 35 #[t.val v, pv, u.val uv] w fun e w' => ∃ v', e = .returned (o.val v') ∧ Below w.heap.size w w' ∧ Lies w' (fun b => S b ∨ w.heap.size ≤ b) o v' := by
  induction l with
  | nil =>
    intro S t u o v pv uv w hlt hp hlu hput hwt
    cases hput
    obtain ⟨a, len, cap, rfl⟩ := hlt.form
    obtain ⟨ua, ulen, ucap, rfl⟩ := hlu.form
    obtain ⟨pa, pcap, pb, poff, rfl, hpc, hpm, hpa, hpcell⟩ := hp
    have HU := (show Hid _ from hlu); clear hlu hpcell hpa
    simp only [Tr.val, List.length_nil] at *
    go_enter Try.func35, Try.ntmps35
    go_wp2_with fail
    refine bodyPost_ret (v := .agg #[.string u.name, .string u.text, .bool u.leaf, .slice ua ulen ucap]) (by simp [results, Try.results35, go_sem]) rfl ⟨_, rfl, ?_, ?_⟩
    · exact ((bel_alloc _ _).alloc (by simp) _).alloc (by simp; omega) _
    · exact (Lies.still HU.out (((bel_alloc _ _).alloc (by simp) _).alloc (by simp; omega) _)).mono (fun b hb => .inl hb)
  | cons i r ih =>
    intro S t u o v pv uv w hlt0 hp hlu0 hput hwt
    have hlt := hlt0.lt
    have hlu := hlu0.lt
    clear hlt0 hlu0
    obtain ⟨s, hs, hput'⟩ := Option.bind_eq_some_iff.1 hput
    obtain ⟨s', hs', rfl⟩ := Option.map_eq_some_iff.1 hput'
    obtain ⟨ii, rfl, hii, rfl⟩ := kidAt_in hs
    obtain ⟨a, cap, b, off, sv, rfl, hn, hx, hc, hm, ha, hcell, hk⟩ := hlt.out
    obtain ⟨ua, ulen, ucap, rfl⟩ := hlu.form
    obtain ⟨pa, pcap, pb, poff, rfl, hpc, hpm, hpa, hpcell⟩ := hp
    obtain ⟨rfl, _⟩ := ha (by omega)
    obtain ⟨rfl, _⟩ := hpa (by simp)
    have p0 := hpcell 0 (by simp)
    simp only [List.getElem_cons_zero, Nat.add_zero] at p0
    have hpr : ∀ j (hj : j < r.length), w.cell? ⟨pb, poff + 1 + j, none⟩ = some (.int .i64 r[j]) := by
      intro j hj
      have := hpcell (j + 1) (by simp; omega)
      rw [show poff + 1 + j = poff + (j + 1) by omega]
      simpa using this
    have hkl : t.kids.length ≤ 1048576 := by have := wt_kids t; omega
    have hwk : t.kids[ii].wt ≤ 1048576 := by have := wt_kids t; have := Tr.wt_mem t.kids ii hii; omega
    have hsl : ∀ j, j < t.kids.length → ∃ a m c, sv j = .slice a m c := fun j hj => (hk j hj).form
    have HE := (show Hid _ from (⟨hn, hx, hm, hcell, hk, hsl⟩ : _ ∧ _ ∧ _ ∧ _ ∧ _ ∧ _)); clear hcell hk hsl hn hx
    have HI := (show Hid _ from ih); clear ih
    have HPR := (show Hid _ from hpr); clear hpr hpcell
    have HU := (show Hid _ from hlu); clear hlu
    have HS' := (show Hid _ from hs'); clear hs' hput hput' hs ha hpa
    unfold maxLen at hm hpm
    obtain ⟨i29, hi29, hzz⟩ := Option.map_eq_some_iff.1 info29
    simp only [Prod.mk.injEq] at hzz
    obtain ⟨hz0, hz1, hz2⟩ := hzz
    simp only [Tr.val, List.length_cons] at *
    go_enter Try.func35, Try.ntmps35
    have hbW3 : Below w.heap.size w (((w.alloc (.cells #[.string t.name, .string t.text, .bool t.leaf, .slice (some ⟨b, off, none⟩) t.kids.length cap] 29)).alloc (.cells #[.string u.name, .string u.text, .bool u.leaf, .slice ua ulen ucap] 29)).alloc (.cells #[.string ByteArray.empty, .string ByteArray.empty, .bool false, .slice none 0 0] 29)) := ((bel_alloc _ _).alloc (by simp) _).alloc (by simp; omega) _
    have hbW := hbW3.alloc (by simp; omega) (.cells #[] 29)
    have hown0 := World.ownsRow_made (base := w.heap.size + 3) (e := 29) (size := 4) (((w.alloc (.cells #[.string t.name, .string t.text, .bool t.leaf, .slice (some ⟨b, off, none⟩) t.kids.length cap] 29)).alloc (.cells #[.string u.name, .string u.text, .bool u.leaf, .slice ua ulen ucap] 29)).alloc (.cells #[.string ByteArray.empty, .string ByteArray.empty, .bool false, .slice none 0 0] 29)) #[] 0 (by simp) (Nat.zero_le _) rfl
    simp only [World.size_alloc] at hown0
    have HO0 := (show Hid _ from hown0); clear hown0
    have HBW := (show Hid _ from (⟨hbW3, hbW⟩ : _ ∧ _)); clear hbW3 hbW
    go_wp2_with (at_builtin; refine wpList_append_lies _ rfl (.tmp 11) (.tmp 13) 27 rfl (w.heap.size + 3) 29 i29 _ 4 64 Try.underlying27 hi29 hz0 hz1 hz2 rfl (by decide) _ 0 [] rfl HO0.out ⟨b, off, none⟩ t.kids.length cap (kc t.kids sv t.kids.length) rfl ?c0 ?c1 ?c2 ?c4 ?c3 (by omega) (by simp) _ rfl ?nx)
    case c0 => exact kc_len _ _ _
    case c1 =>
      refine kc_cells (fun i hi => ?_)
      obtain ⟨c0, c1, c2, c3⟩ := HE.out.2.2.2.1 i hi
      exact ⟨(HBW.out.2.cell (lt_of_cell c0)).trans c0, (HBW.out.2.cell (lt_of_cell c1)).trans c1, (HBW.out.2.cell (lt_of_cell c2)).trans c2, (HBW.out.2.cell (lt_of_cell c3)).trans c3⟩
    case c2 => exact kc_one _ _ _ HE.out.2.2.2.2.2
    case c4 => omega
    case c3 => unfold maxLen; omega
    case nx =>
      intro g3 cap3 w3 hown3 hgr3 hat3 hlt3
      have hs3 : w.heap.size + 4 ≤ w3.heap.size := by have := hgr3.size; simp at this; omega
      have hkp : ∀ q, q < w.heap.size + 3 → w3.heap[q]? = (((w.alloc (.cells #[.string t.name, .string t.text, .bool t.leaf, .slice (some ⟨b, off, none⟩) t.kids.length cap] 29)).alloc (.cells #[.string u.name, .string u.text, .bool u.leaf, .slice ua ulen ucap] 29)).alloc (.cells #[.string ByteArray.empty, .string ByteArray.empty, .bool false, .slice none 0 0] 29)).heap[q]? := by
        intro q hq
        exact (hgr3.block q (by simp; omega) (by simp [Value.ownBlock]; omega)).trans ((bel_alloc (((w.alloc (.cells #[.string t.name, .string t.text, .bool t.leaf, .slice (some ⟨b, off, none⟩) t.kids.length cap] 29)).alloc (.cells #[.string u.name, .string u.text, .bool u.leaf, .slice ua ulen ucap] 29)).alloc (.cells #[.string ByteArray.empty, .string ByteArray.empty, .bool false, .slice none 0 0] 29)) (.cells #[] 29)).block q (by simp; omega))
      have T3 : Box4 w3 w.heap.size (.string t.name) (.string t.text) (.bool t.leaf) (.slice (some ⟨b, off, none⟩) t.kids.length cap) :=
        (((Box4.new w _ _ _ _).still (bel_alloc _ (.cells #[.string u.name, .string u.text, .bool u.leaf, .slice ua ulen ucap] 29))).still (bel_alloc _ (.cells #[.string ByteArray.empty, .string ByteArray.empty, .bool false, .slice none 0 0] 29))).keep (hkp _ (by omega))
      have U3 : Box4 w3 (w.heap.size + 1) (.string u.name) (.string u.text) (.bool u.leaf) (.slice ua ulen ucap) := by
        have := (Box4.new (w.alloc (.cells #[.string t.name, .string t.text, .bool t.leaf, .slice (some ⟨b, off, none⟩) t.kids.length cap] 29)) (.string u.name) (.string u.text) (.bool u.leaf) (.slice ua ulen ucap)).still (bel_alloc _ (.cells #[.string ByteArray.empty, .string ByteArray.empty, .bool false, .slice none 0 0] 29))
        simp only [World.size_alloc] at this
        exact this.keep (hkp _ (by omega))
      have R3 : Box4 w3 (w.heap.size + 2) (.string ByteArray.empty) (.string ByteArray.empty) (.bool false) (.slice none 0 0) := by
        have := Box4.new ((w.alloc (.cells #[.string t.name, .string t.text, .bool t.leaf, .slice (some ⟨b, off, none⟩) t.kids.length cap] 29)).alloc (.cells #[.string u.name, .string u.text, .bool u.leaf, .slice ua ulen ucap] 29)) (.string ByteArray.empty) (.string ByteArray.empty) (.bool false) (.slice none 0 0)
        simp only [World.size_alloc] at this
        exact this.keep (hkp _ (by omega))
      have hbw3 : Below w.heap.size w w3 := HBW.out.2.grown hgr3 (by simp; omega) (fun q hq => by simp [Value.ownBlock] at hq; omega)
      have hg3 : w.heap.size + 3 ≤ g3 := (hown3.lt g3 rfl).1
      obtain ⟨t0, t1, t2, t3⟩ := T3.cells
      have tf := T3.frozen 3
      -- the world behind the store
      have T5 := T3.set3 (.slice (some ⟨g3, 0, none⟩) t.kids.length cap3)
      have oth : ∀ q, q ≠ w.heap.size → (w3.setCell ⟨w.heap.size, 3, none⟩ (.slice (some ⟨g3, 0, none⟩) t.kids.length cap3)).heap[q]? = w3.heap[q]? := fun q hq => blk_setCell_other _ _ _ _ (by exact hq)
      have U5 := U3.keep (oth _ (by omega))
      have R5 := R3.keep (oth _ (by omega))
      have hbw5 := hbw3.setCell (p := ⟨w.heap.size, 3, none⟩) (Nat.le_refl _) (.slice (some ⟨g3, 0, none⟩) t.kids.length cap3)
      have hown5 : (w3.setCell ⟨w.heap.size, 3, none⟩ (.slice (some ⟨g3, 0, none⟩) t.kids.length cap3)).ownsRow (w.heap.size + 3) 29 4 (.slice (some ⟨g3, 0, none⟩) t.kids.length cap3) t.kids.length (kc t.kids sv t.kids.length) :=
        hown3.kept (row := some w.heap.size) ⟨rfl, rfl, rfl, by simp [World.setCell], fun q _ hq => oth q (fun e => hq (by rw [e]))⟩ (.inr (by simp [Value.ownBlock]; omega))
      have hs5 : (w3.setCell ⟨w.heap.size, 3, none⟩ (.slice (some ⟨g3, 0, none⟩) t.kids.length cap3)).heap.size = w3.heap.size := by simp [World.setCell]
      clear U3 R3 hbw3 oth hkp hgr3 hat3 hown3 T3
      have H5 := (show Hid _ from (⟨T5, U5, R5, hbw5, hown5, hs5⟩ : _ ∧ _ ∧ _ ∧ _ ∧ _ ∧ _)); clear T5 U5 R5 hbw5 hown5 hs5
      go_wp2_with fail
      clear t0 t1 t2 t3 tf
      generalize hw5 : w3.setCell ⟨w.heap.size, 3, none⟩ (.slice (some ⟨g3, 0, none⟩) t.kids.length cap3) = w5 at *
      clear hw5
      obtain ⟨T5, U5, R5, hbw5, hown5, hs5⟩ := H5.out
      obtain ⟨t0, t1, t2, t3⟩ := Box4.cells T5
      obtain ⟨u0, u1, u2, u3⟩ := Box4.cells U5
      have q0 := (hbw5.cell (lt_of_cell p0)).trans p0
      obtain ⟨k0, k1, k2, k3⟩ := kc_get t.kids sv t.kids.length ii hii
      rw [← World.ownsRow.cellAt hown5 _ (by omega), nth_eq hii] at k0
      rw [← World.ownsRow.cellAt hown5 _ (by omega), nth_eq hii] at k1
      rw [← World.ownsRow.cellAt hown5 _ (by omega), nth_eq hii] at k2
      rw [← World.ownsRow.cellAt hown5 _ (by omega)] at k3
      obtain ⟨a4, m4, c4, hsv⟩ := HE.out.2.2.2.2.2 ii hii
      rw [hsv] at k3
      have hg5 : g3 < w5.heap.size := by omega
      obtain ⟨pa1, hpa1, hps⟩ := path_rest pb poff r.length pcap hpc
      have hdr := (Below.refl w5.heap.size w5).drew
      have hcl := HI.out (fun b => S b ∧ b < w.heap.size) t.kids[ii] u s' (.slice a4 m4 c4) (.slice pa1 r.length (pcap - 1)) (.slice ua ulen ucap) w5.drew
        (by have := ((HE.out.2.2.2.2.1 ii hii).still hbw5).still hdr; rw [hsv] at this; exact this)
        ⟨pa1, pcap - 1, pb, poff + 1, rfl, by omega, by unfold maxLen; omega, fun h => ⟨hpa1 h, trivial⟩, fun j hj => (hdr.cell (lt_of_cell ((hbw5.cell (lt_of_cell (HPR.out j hj))).trans (HPR.out j hj)))).trans ((hbw5.cell (lt_of_cell (HPR.out j hj))).trans (HPR.out j hj))⟩
        ((Lies.still HU.out hbw5).still hdr) HS'.out hwk
      have HCL := (show Hid _ from hcl); clear hcl hpa1
      have HQ0 := (show Hid _ from q0)
      clear T5 U5 R5 hbw5 hown5 hs5 hlt hsv
      obtain ⟨hnc3, hcm3, f3, hrow3, hf3⟩ := row_of_owns H5.out.2.2.2.2.1
      have HRW := (show Hid _ from (⟨hnc3, hcm3, hrow3, hf3⟩ : _ ∧ _ ∧ _ ∧ _)); clear hcm3 hrow3 hf3
      have HU5 := (show Hid _ from Box4.cells H5.out.2.1)
      have hpb : pb < w.heap.size := lt_of_cell p0
      have hS5 : Held5 t u w g3 cap3 ii pb poff ua ulen ucap w5.drew := ⟨t3, q0, u0, u1, u2, u3⟩
      have hkd : ∀ c v, w5.cell? ⟨g3, ii * 4 + c, none⟩ = some v → w5.drew.cell? ⟨g3, ii * 4 + c, none⟩ = some v := fun c v h => h
      refine wp_region_held_drew (S := Held5 t u w g3 cap3 ii pb poff ua ulen ucap) (by kernel_rfl) hS5 (fun hHeld => ?_)
      refine wpAnyH_take (i := 0) (oi := { dst := some 16, op := Op.fieldAddr 29 (Operand.tmp 3) 3, type := 0, pos := "l01_trees.go:337", after := #[], guard := none }) (v := .pointer (some ⟨w.heap.size, 3, none⟩)) rfl (by kernel_rfl) (by kernel_rfl) (by kernel_rfl) (fun _ _ _ h => h) (Or.inl ⟨by rfl, ?_⟩) hHeld ?_
      · (intro w' hSw; obtain ⟨s0, s1, s2, s3, s4, s5⟩ := hSw; clear hHeld hS5; go_simp)
      try simp only [Act.put, List.setIfInBounds_toArray, List.set_cons_zero, List.set_cons_succ]
      refine wpAnyH_take (i := 1) (oi := { dst := some 17, op := Op.load 27 (Operand.tmp 16), type := 27, pos := "l01_trees.go:337", after := #[{ on := 0, ground := Ground.data }], guard := none }) (v := .slice (some ⟨g3, 0, none⟩) t.kids.length cap3) rfl (by kernel_rfl) (by kernel_rfl) (by kernel_rfl) (fun _ _ _ h => h) (Or.inl ⟨by rfl, ?_⟩) hHeld ?_
      · (intro w' hSw; obtain ⟨s0, s1, s2, s3, s4, s5⟩ := hSw; clear hHeld hS5; go_simp)
      try simp only [Act.put, List.setIfInBounds_toArray, List.set_cons_zero, List.set_cons_succ]
      refine wpAnyH_take (i := 2) (oi := { dst := some 18, op := Op.move (Operand.tmp 1), type := 25, pos := "l01_trees.go:337", after := #[], guard := none }) (v := .slice (some ⟨pb, poff, none⟩) (r.length + 1) pcap) rfl (by kernel_rfl) (by kernel_rfl) (by kernel_rfl) (fun _ _ _ h => h) (Or.inl ⟨by rfl, ?_⟩) hHeld ?_
      · (intro w' hSw; obtain ⟨s0, s1, s2, s3, s4, s5⟩ := hSw; clear hHeld hS5; go_simp)
      try simp only [Act.put, List.setIfInBounds_toArray, List.set_cons_zero, List.set_cons_succ]
      refine wpAnyH_take (i := 3) (oi := { dst := some 19, op := Op.indexAddr 25 (Operand.tmp 18) (Operand.const (Value.int IntKind.i64 0)), type := 0, pos := "l01_trees.go:337", after := #[{ on := 2, ground := Ground.data }], guard := none }) (v := .pointer (some ⟨pb, poff, none⟩)) rfl (by kernel_rfl) (by kernel_rfl) (by kernel_rfl) (fun _ _ _ h => h) (Or.inl ⟨by rfl, ?_⟩) hHeld ?_
      · (intro w' hSw; obtain ⟨s0, s1, s2, s3, s4, s5⟩ := hSw; clear hHeld hS5; go_simp)
      try simp only [Act.put, List.setIfInBounds_toArray, List.set_cons_zero, List.set_cons_succ]
      refine wpAnyH_take (i := 4) (oi := { dst := some 20, op := Op.load 3 (Operand.tmp 19), type := 3, pos := "l01_trees.go:337", after := #[{ on := 3, ground := Ground.data }], guard := none }) (v := .int .i64 ii) rfl (by kernel_rfl) (by kernel_rfl) (by kernel_rfl) (fun _ _ _ h => h) (Or.inl ⟨by rfl, ?_⟩) hHeld ?_
      · (intro w' hSw; obtain ⟨s0, s1, s2, s3, s4, s5⟩ := hSw; clear hHeld hS5; go_simp)
      try simp only [Act.put, List.setIfInBounds_toArray, List.set_cons_zero, List.set_cons_succ]
      refine wpAnyH_take (i := 5) (oi := { dst := some 21, op := Op.fieldAddr 29 (Operand.tmp 3) 3, type := 0, pos := "l01_trees.go:337", after := #[], guard := none }) (v := .pointer (some ⟨w.heap.size, 3, none⟩)) rfl (by kernel_rfl) (by kernel_rfl) (by kernel_rfl) (fun _ _ _ h => h) (Or.inl ⟨by rfl, ?_⟩) hHeld ?_
      · (intro w' hSw; obtain ⟨s0, s1, s2, s3, s4, s5⟩ := hSw; clear hHeld hS5; go_simp)
      try simp only [Act.put, List.setIfInBounds_toArray, List.set_cons_zero, List.set_cons_succ]
      refine wpAnyH_take (i := 6) (oi := { dst := some 22, op := Op.load 27 (Operand.tmp 21), type := 27, pos := "l01_trees.go:337", after := #[{ on := 5, ground := Ground.data }], guard := none }) (v := .slice (some ⟨g3, 0, none⟩) t.kids.length cap3) rfl (by kernel_rfl) (by kernel_rfl) (by kernel_rfl) (fun _ _ _ h => h) (Or.inl ⟨by rfl, ?_⟩) hHeld ?_
      · (intro w' hSw; obtain ⟨s0, s1, s2, s3, s4, s5⟩ := hSw; clear hHeld hS5; go_simp)
      try simp only [Act.put, List.setIfInBounds_toArray, List.set_cons_zero, List.set_cons_succ]
      refine wpAnyH_take (i := 7) (oi := { dst := some 23, op := Op.move (Operand.tmp 1), type := 25, pos := "l01_trees.go:337", after := #[], guard := none }) (v := .slice (some ⟨pb, poff, none⟩) (r.length + 1) pcap) rfl (by kernel_rfl) (by kernel_rfl) (by kernel_rfl) (fun _ _ _ h => h) (Or.inl ⟨by rfl, ?_⟩) hHeld ?_
      · (intro w' hSw; obtain ⟨s0, s1, s2, s3, s4, s5⟩ := hSw; clear hHeld hS5; go_simp)
      try simp only [Act.put, List.setIfInBounds_toArray, List.set_cons_zero, List.set_cons_succ]
      refine wpAnyH_take (i := 8) (oi := { dst := some 24, op := Op.indexAddr 25 (Operand.tmp 23) (Operand.const (Value.int IntKind.i64 0)), type := 0, pos := "l01_trees.go:337", after := #[{ on := 7, ground := Ground.data }], guard := none }) (v := .pointer (some ⟨pb, poff, none⟩)) rfl (by kernel_rfl) (by kernel_rfl) (by kernel_rfl) (fun _ _ _ h => h) (Or.inl ⟨by rfl, ?_⟩) hHeld ?_
      · (intro w' hSw; obtain ⟨s0, s1, s2, s3, s4, s5⟩ := hSw; clear hHeld hS5; go_simp)
      try simp only [Act.put, List.setIfInBounds_toArray, List.set_cons_zero, List.set_cons_succ]
      refine wpAnyH_take (i := 9) (oi := { dst := some 25, op := Op.load 3 (Operand.tmp 24), type := 3, pos := "l01_trees.go:337", after := #[{ on := 8, ground := Ground.data }], guard := none }) (v := .int .i64 ii) rfl (by kernel_rfl) (by kernel_rfl) (by kernel_rfl) (fun _ _ _ h => h) (Or.inl ⟨by rfl, ?_⟩) hHeld ?_
      · (intro w' hSw; obtain ⟨s0, s1, s2, s3, s4, s5⟩ := hSw; clear hHeld hS5; go_simp)
      try simp only [Act.put, List.setIfInBounds_toArray, List.set_cons_zero, List.set_cons_succ]
      refine wpAnyH_take (i := 10) (oi := { dst := some 26, op := Op.indexAddr 27 (Operand.tmp 22) (Operand.tmp 25), type := 0, pos := "l01_trees.go:337", after := #[{ on := 6, ground := Ground.data }, { on := 9, ground := Ground.data }], guard := none }) (v := .pointer (some ⟨g3, ii * 4, none⟩)) rfl (by kernel_rfl) (by kernel_rfl) (by kernel_rfl) (fun _ _ _ h => h) (Or.inl ⟨by rfl, ?_⟩) hHeld ?_
      · (intro w' hSw; obtain ⟨s0, s1, s2, s3, s4, s5⟩ := hSw; clear hHeld hS5; go_simp)
      try simp only [Act.put, List.setIfInBounds_toArray, List.set_cons_zero, List.set_cons_succ]
      refine wpAnyH_take (i := 12) (oi := { dst := some 28, op := Op.move (Operand.tmp 1), type := 25, pos := "l01_trees.go:337", after := #[], guard := none }) (v := .slice (some ⟨pb, poff, none⟩) (r.length + 1) pcap) rfl (by kernel_rfl) (by kernel_rfl) (by kernel_rfl) (fun _ _ _ h => h) (Or.inl ⟨by rfl, ?_⟩) hHeld ?_
      · (intro w' hSw; obtain ⟨s0, s1, s2, s3, s4, s5⟩ := hSw; clear hHeld hS5; go_simp)
      try simp only [Act.put, List.setIfInBounds_toArray, List.set_cons_zero, List.set_cons_succ]
      refine wpAnyH_take (i := 13) (oi := { dst := some 29, op := Op.slice 25 (Operand.tmp 28) (some (Operand.const (Value.int IntKind.i64 1))) none none, type := 25, pos := "l01_trees.go:337", after := #[{ on := 12, ground := Ground.data }], guard := none }) (v := .slice pa1 r.length (pcap - 1)) rfl (by kernel_rfl) (by kernel_rfl) (by kernel_rfl) (fun _ _ _ h => h) (Or.inl ⟨by rfl, ?_⟩) hHeld ?_
      · (intro w' hSw; obtain ⟨s0, s1, s2, s3, s4, s5⟩ := hSw; clear hHeld hS5; go_simp)
      try simp only [Act.put, List.setIfInBounds_toArray, List.set_cons_zero, List.set_cons_succ]
      refine wpAnyH_take (i := 14) (oi := { dst := some 30, op := Op.load 29 (Operand.tmp 5), type := 29, pos := "l01_trees.go:337", after := #[], guard := none }) (v := .agg #[.string u.name, .string u.text, .bool u.leaf, .slice ua ulen ucap]) rfl (by kernel_rfl) (by kernel_rfl) (by kernel_rfl) (fun _ _ _ h => h) (Or.inl ⟨by rfl, ?_⟩) hHeld ?_
      · (intro w' hSw; obtain ⟨s0, s1, s2, s3, s4, s5⟩ := hSw; clear hHeld hS5; go_simp)
      try simp only [Act.put, List.setIfInBounds_toArray, List.set_cons_zero, List.set_cons_succ]
      refine wpAnyH_ready (rs := [11]) (by kernel_rfl) (by simp) ?_
      refine AllReadyH.cons (o := { dst := some 27, op := Op.load 29 (Operand.tmp 26), type := 29, pos := "l01_trees.go:337", after := #[{ on := 10, ground := Ground.data }], guard := none }) rfl (fun K hK => ?_) AllReadyH.nil
      go_simp
      refine hK.out _ _ hHeld (fun hHeld => ?_)
      clear hK K
      try simp only [Act.put, List.setIfInBounds_toArray, List.set_cons_zero, List.set_cons_succ]
      refine wpAnyH_ready (rs := [15]) (by kernel_rfl) (by simp) ?_
      refine AllReadyH.cons (o := { dst := some 31, op := Op.call { callee := Callee.value (Operand.func 35), args := #[Operand.tmp 27, Operand.tmp 29, Operand.tmp 30], argTypes := #[29, 25, 29] }, type := 29, pos := "l01_trees.go:337", after := #[{ on := 11, ground := Ground.data }, { on := 13, ground := Ground.data }, { on := 14, ground := Ground.data }], guard := none }) rfl (fun K hK => ?_) AllReadyH.nil
      go_simp
      refine Calls.mono HCL.out ?_
      rintro e w6 ⟨v6, rfl, hb6, hl6⟩
      obtain ⟨a6, m6, c6, rfl⟩ := hl6.form
      have hbX : Below w5.heap.size w5 w6 := hdr.trans (hb6.mono (Nat.le_refl _))
      have y3 := (Box4.still H5.out.1 hbX).cells.2.2.2
      have q6 := (hbX.cell (lt_of_cell HQ0.out)).trans HQ0.out
      have hS6 : Held5 t u w g3 cap3 ii pb poff ua ulen ucap w6 := ⟨y3, q6, (Four.still HU5.out hbX)⟩
      have hS7 : Held5 t u w g3 cap3 ii pb poff ua ulen ucap (set4 w6 g3 (ii * 4) s' (.slice a6 m6 c6)) := hS6.past (by omega) hpb
      have hrow6 := World.rowIs.of_block HRW.out.2.2.1 (hbX.block g3 hg5)
      refine hK.out _ _ hS6 (fun hHeld => ?_)
      clear hK K k0 k1 k2 k3 y3 q6 t0 t1 t2 t3 u0 u1 u2 u3 q0 hS5
      try simp only [Act.put, List.setIfInBounds_toArray, List.set_cons_zero, List.set_cons_succ]
      refine wpAnyH_take (i := 16) (oi := { dst := some 32, op := Op.indexAddr 27 (Operand.tmp 17) (Operand.tmp 20), type := 0, pos := "l01_trees.go:337", after := #[{ on := 1, ground := Ground.data }, { on := 4, ground := Ground.data }, { on := 0, ground := Ground.phase }, { on := 1, ground := Ground.phase }, { on := 2, ground := Ground.phase }, { on := 3, ground := Ground.phase }, { on := 4, ground := Ground.phase }, { on := 5, ground := Ground.phase }, { on := 6, ground := Ground.phase }, { on := 7, ground := Ground.phase }, { on := 8, ground := Ground.phase }, { on := 9, ground := Ground.phase }, { on := 10, ground := Ground.phase }, { on := 11, ground := Ground.phase }, { on := 12, ground := Ground.phase }, { on := 13, ground := Ground.phase }, { on := 14, ground := Ground.phase }, { on := 15, ground := Ground.phase }], guard := none }) (v := .pointer (some ⟨g3, ii * 4, none⟩)) rfl (by kernel_rfl) (by kernel_rfl) (by kernel_rfl) (fun _ _ _ h => h) (Or.inl ⟨by rfl, ?_⟩) hHeld ?_
      · (intro w' hSw; obtain ⟨s0, s1, s2, s3, s4, s5⟩ := hSw; clear hHeld; go_simp)
      try simp only [Act.put, List.setIfInBounds_toArray, List.set_cons_zero, List.set_cons_succ]
      refine wpAnyH_ready (rs := [17]) (by kernel_rfl) (by simp) ?_
      refine AllReadyH.cons (o := { dst := none, op := Op.store 29 (Operand.tmp 32) (Operand.tmp 31), type := 0, pos := "l01_trees.go:337", after := #[{ on := 16, ground := Ground.data }, { on := 15, ground := Ground.data }, { on := 15, ground := Ground.chain }, { on := 0, ground := Ground.phase }, { on := 1, ground := Ground.phase }, { on := 2, ground := Ground.phase }, { on := 3, ground := Ground.phase }, { on := 4, ground := Ground.phase }, { on := 5, ground := Ground.phase }, { on := 6, ground := Ground.phase }, { on := 7, ground := Ground.phase }, { on := 8, ground := Ground.phase }, { on := 9, ground := Ground.phase }, { on := 10, ground := Ground.phase }, { on := 11, ground := Ground.phase }, { on := 12, ground := Ground.phase }, { on := 13, ground := Ground.phase }, { on := 14, ground := Ground.phase }, { on := 15, ground := Ground.phase }], guard := none }) rfl (fun K hK => ?_) AllReadyH.nil
      have x0 := hrow6.cell (i := ii * 4) (by omega)
      have x1 := hrow6.cell (i := ii * 4 + 1) (by omega)
      have x2 := hrow6.cell (i := ii * 4 + 2) (by omega)
      have x3 := hrow6.cell (i := ii * 4 + 3) (by omega)
      have z0 := hrow6.frozen (ii * 4)
      have z1 := hrow6.frozen (ii * 4 + 1)
      have z2 := hrow6.frozen (ii * 4 + 2)
      have z3 := hrow6.frozen (ii * 4 + 3)
      go_simp
      refine hK.out _ _ hS7 (fun hHeld => ?_)
      clear hK K x0 x1 x2 x3 z0 z1 z2 z3
      try simp only [Act.put, List.setIfInBounds_toArray, List.set_cons_zero, List.set_cons_succ]
      refine wpAnyH_done (by kernel_rfl) ?_ _
      have hs5 := H5.out.2.2.2.2.2
      have hbw6 := H5.out.2.2.2.1.trans (hbX.mono (by omega))
      have hoth : ∀ q, q ≠ g3 → (set4 w6 g3 (ii * 4) s' (.slice a6 m6 c6)).heap[q]? = w6.heap[q]? := fun q hq => set4_other _ _ _ _ _ _ hq
      have T7 := (Box4.still H5.out.1 hbX).keep (hoth w.heap.size (by omega))
      have R7 := (Box4.still H5.out.2.2.1 hbX).keep (hoth (w.heap.size + 2) (by omega))
      have hbw7 : Below w.heap.size w (set4 w6 g3 (ii * 4) s' (.slice a6 m6 c6)) := by
        unfold set4
        exact (((hbw6.setCell (by show w.heap.size ≤ g3; omega) _).setCell (by show w.heap.size ≤ g3; omega) _).setCell (by show w.heap.size ≤ g3; omega) _).setCell (by show w.heap.size ≤ g3; omega) _
      obtain ⟨hnc3, hcm3, _, hf3⟩ := HRW.out
      have HL6 := (show Hid _ from hl6); clear hl6
      have HX := (show Hid _ from (⟨hoth, hbw7, hrow6, hnc3, hcm3, hf3⟩ : _ ∧ _ ∧ _ ∧ _ ∧ _ ∧ _))
      clear hrow6 hcm3 hf3 hbw6 hS6 hS7 hHeld hb6 HCL HQ0 HI HPR HS' HU HU5 HBW HO0
      rw [show ((((w6.setCell ⟨g3, ii * 4, none⟩ (.string s'.name)).setCell ⟨g3, ii * 4 + 1, none⟩ (.string s'.text)).setCell ⟨g3, ii * 4 + 2, none⟩ (.bool s'.leaf)).setCell ⟨g3, ii * 4 + 3, none⟩ (.slice a6 m6 c6)) = set4 w6 g3 (ii * 4) s' (.slice a6 m6 c6) from rfl]
      generalize hw7 : set4 w6 g3 (ii * 4) s' (.slice a6 m6 c6) = w7 at *
      obtain ⟨X0, X1, X2, X3⟩ := T7.cells
      obtain ⟨Z0, Z1, Z2, Z3⟩ := R7.cells
      have y0 := R7.frozen 0
      have y1 := R7.frozen 1
      have y2 := R7.frozen 2
      have y3 := R7.frozen 3
      have HW7 := (show Hid _ from hw7); clear hw7 hoth hbw7 T7 R7
      go_wp2_with fail
      obtain ⟨hoth, hbw7, hrow6, hnc3, hcm3, hf3⟩ := HX.out
      have hbw8 := (((hbw7.setCell (p := ⟨w.heap.size + 1 + 1, 0, none⟩) (by show w.heap.size ≤ w.heap.size + 1 + 1; omega) (.string t.name)).setCell (p := ⟨w.heap.size + 1 + 1, 1, none⟩) (by show w.heap.size ≤ w.heap.size + 1 + 1; omega) (.string t.text)).setCell (p := ⟨w.heap.size + 1 + 1, 2, none⟩) (by show w.heap.size ≤ w.heap.size + 1 + 1; omega) (.bool t.leaf)).setCell (p := ⟨w.heap.size + 1 + 1, 3, none⟩) (by show w.heap.size ≤ w.heap.size + 1 + 1; omega) (.slice (some ⟨g3, 0, none⟩) t.kids.length cap3)
      have ho8 : ∀ q, q ≠ w.heap.size + 1 + 1 → ((((w7.setCell ⟨w.heap.size + 1 + 1, 0, none⟩ (.string t.name)).setCell ⟨w.heap.size + 1 + 1, 1, none⟩ (.string t.text)).setCell ⟨w.heap.size + 1 + 1, 2, none⟩ (.bool t.leaf)).setCell ⟨w.heap.size + 1 + 1, 3, none⟩ (.slice (some ⟨g3, 0, none⟩) t.kids.length cap3)).heap[q]? = w7.heap[q]? := by
        intro q hq
        rw [blk_setCell_other _ _ _ _ (by exact hq), blk_setCell_other _ _ _ _ (by exact hq), blk_setCell_other _ _ _ _ (by exact hq), blk_setCell_other _ _ _ _ (by exact hq)]
      refine bodyPost_ret (v := .agg #[.string t.name, .string t.text, .bool t.leaf, .slice (some ⟨g3, 0, none⟩) t.kids.length cap3]) (by simp [results, Try.results35, go_sem, Z0, Z1, Z2, Z3]) rfl ?_
      generalize hw8 : (((w7.setCell ⟨w.heap.size + 1 + 1, 0, none⟩ (.string t.name)).setCell ⟨w.heap.size + 1 + 1, 1, none⟩ (.string t.text)).setCell ⟨w.heap.size + 1 + 1, 2, none⟩ (.bool t.leaf)).setCell ⟨w.heap.size + 1 + 1, 3, none⟩ (.slice (some ⟨g3, 0, none⟩) t.kids.length cap3) = w8 at *
      have hto : ((ii : Int)).toNat = ii := by omega
      rw [hto]
      refine ⟨_, rfl, hbw8, ?_⟩
      have hu5 := Box4.lt H5.out.2.2.1
      refine put_lies (v6 := .slice a6 m6 c6) (w := w) (S := S) (S6 := S) (B := 0) hii HE.out.1 HE.out.2.1 hnc3 hcm3 hrow6 hf3 ?_ (.inr (by omega)) (fun i hi => ?_) ?_
      · rw [HW7.out]
        exact ho8 g3 (by omega)
      · exact (Lies.keep (fun b hb => hbw8.block b hb.2) (HE.out.2.2.2.2.1 i hi)).mono (fun b hb => .inl hb.1)
      · refine (Lies.keep (fun b hb => ?_) HL6.out).mono (fun b hb => ?_)
        · have hb1 : b < w.heap.size ∨ w5.heap.size ≤ b := hb.imp (fun h => h.2) (fun h => h)
          rw [ho8 b (by omega)]
          exact hoth b (by omega)
        · rcases hb with h | h
          · exact .inl h.1
          · refine .inr ?_
            have h' : w5.heap.size ≤ b := h
            omega
end Go.Proofs.Ythmdoplickpmaai
