import Derived.Test.YtofobmdljelmgaaFb
import Derived.Deep.RegionHeld3
/-! l09DrawTrees, walked. -/
namespace Go.Proofs.Ytofobmdljelmgaa
open Go.RowKit Go.Deep Go.Lib
set_option linter.unusedVariables false
set_option maxRecDepth 100000
set_option linter.unusedSimpArgs false

/-- What is left when a row of trees is drawn. -/
def DrewR (cs : List UInt8) (a : Option Addr) (cap b off c : Nat) (r : List Tr × (Nat × Nat)) (w : World) (e : Ending) (w' : World) : Prop :=
  ∃ xa xm xc, e = .returned (.slice xa xm xc) ∧ Out c (c + 1) w w' ∧ Cur w' cs a cap b off c r.2 ∧ Rwl r.1 w.heap.size (.slice xa xm xc) w'
/-- A tree that was drawn behind a row is none of the row's. -/
theorem drawn_lies {B W : Nat} {t : Tr} {v u : Value} {w1 : World} (hg : Grw t.kids W t.kids.length u w1) (hn : t.name.size ≤ maxLen ∧ t.text.size ≤ maxLen) (hB : B ≤ W) (hv : ∀ q, v.ownBlock = some q → q < W) : Lies w1 (fun q => B ≤ q ∧ v.ownBlock ≠ some q) t u := by
  have hok := Grw.done (n := t.name) (x := t.text) (le := t.leaf) hg hn.1 hn.2
  have ho : Own w1 W w1.heap.size t u := by cases t; exact hok
  exact ho.lies.mono (fun q hq => ⟨by omega, fun e => by have := hv q e; omega⟩)
theorem Out.cellAt {c : Nat} {w w' : World} {q o : Nat} {v : Value} (h : Out c (c + 1) w w') (hc : w.cell? ⟨q, o, none⟩ = some v) (hq : q ≠ c) : w'.cell? ⟨q, o, none⟩ = some v :=
  (World.cell?_of_block (w := w) (h.2.2.2.2 q (lt_of_cell hc) (by omega))).trans hc
theorem Box.outc {c g T : Nat} {w w' : World} {cs : List Value} (h : Box w g T cs) (ho : Out c (c + 1) w w') (hq : g ≠ c) : Box w' g T cs := h.keep (ho.2.2.2.2 g h.lt (by omega))
set_option maxHeartbeats 3200000 in
theorem drawTrees16 {cs : List UInt8} {a : Option Addr} {cap b off c : Nat} (s : Nat × Nat) (w : World) (hc : Cur w cs a cap b off c s) :
    Calls Try.prog 27 #[.pointer (some ⟨c, 0, none⟩)] w (DrewR cs a cap b off c (cRow cs s) w) := by
  have hlt := hc.lt
  have hba := bel_alloc w (.cells #[] 39)
  have HPK := (show Hid _ from pick_any 4 _ (hc.still hba) (by omega))
  have HR0 := (show Hid (Rwl [] w.heap.size (.slice (some ⟨w.heap.size, 0, none⟩) 0 0) (w.alloc (.cells #[] 39))) from Rwl.made w)
  have HB0 := (show Hid _ from hba)
  have hm4 := cPick_lt cs 4 s (by omega)
  have HRW := (show Hid (cRow cs s = cMany cs (cPick cs 4 s).1 ([], (cPick cs 4 s).2)) from rfl)
  generalize hq : cPick cs 4 s = q4 at *
  obtain ⟨m, s0⟩ := q4
  dsimp only at hm4 HRW HPK
  clear hq hba hc
  obtain ⟨i39, hi39, hz0, hz1, hz2⟩ := info_parts info39
  go_enter Try.func27, Try.ntmps27
  go_wp2_with fail
  refine Calls.mono HPK.out ?_
  rintro e w1 ⟨rfl, ho1, hs1, hc1⟩
  have HS := (show Hid (Out c (c + 1) w w1 ∧ Cur w1 cs a cap b off c s0 ∧ Rwl [] w.heap.size (.slice (some ⟨w.heap.size, 0, none⟩) 0 0) w1) from ⟨(Out.of_below HB0.out).trans ho1, hc1, HR0.out.out ho1 hlt⟩)
  clear HPK HR0 HB0 ho1 hs1 hc1
  go_wp2_with fail
  go_loopw [3, 4] (fun v i wr => ∃ (j : Nat) (k : List Tr) (sj : Nat × Nat) (xa : Option Addr) (xc : Nat), v = .slice xa k.length xc ∧ i = .int .i64 j ∧ k.length + 2 * j ≤ 6 ∧ Hid (cRow cs s = cMany cs j (k, sj)) ∧ Hid (Out c (c + 1) w wr ∧ Cur wr cs a cap b off c sj ∧ Rwl k w.heap.size (.slice xa k.length xc) wr)) (fun _ i _ => (intOf i).toNat)
  case atStart => exact ⟨m, [], s0, _, _, rfl, rfl, by simp; omega, HRW.out, HS.out⟩
  case round =>
    obtain ⟨j, k, sj, xa, xc, rfl, rfl, hkj, HM, HT⟩ := hrel
    clear HS HRW hm4
    by_cases hj : 0 < j
    · obtain ⟨j, rfl⟩ : ∃ i, j = i + 1 := ⟨j - 1, by omega⟩
      have hsub : IntKind.i64.wrap (((j + 1 : Nat) : Int) - 1) = (j : Int) := by rw [IntKind.wrap_i64]; omega
      have hsub2 : ((j + 1 : Nat) : Int) - 1 = (j : Int) := by omega
      have HOW := (show Hid (∀ q, (Value.slice xa k.length xc).ownBlock = some q → q < wr.heap.size) from (by
        obtain ⟨fs, hown, _⟩ := HT.out.2.2
        exact fun q hq => (World.ownsRow.lt hown q hq).2))
      have HLW := (show Hid (w.heap.size ≤ wr.heap.size) from HT.out.1.2.2.2.1)
      have HCL := (show Hid (Calls Try.prog 56 #[.pointer (some ⟨c, 0, none⟩), .int .i64 (3 : Nat)] wr fun e w' => Drew cs a cap b off c (cTree cs 3 sj) wr e w') from drawTree_any 3 sj wr HT.out.2.1 (by omega))
      have hnm := cTree_nm cs 3 sj
      have HONE := (show Hid (cOne cs k sj = if (cPick cs 2 (cTree cs 3 sj).2).1 = 0 then ((k ++ [(cTree cs 3 sj).1]) ++ [addT (cTree cs 3 sj).1 (cTree cs 1 (cPick cs 2 (cTree cs 3 sj).2).2).1], (cTree cs 1 (cPick cs 2 (cTree cs 3 sj).2).2).2) else (k ++ [(cTree cs 3 sj).1], (cPick cs 2 (cTree cs 3 sj).2).2)) from rfl)
      generalize hT3 : cTree cs 3 sj = T3 at *
      obtain ⟨t, s1⟩ := T3
      dsimp only at hnm HONE
      clear hT3
      go_wp2_with fail
      refine Calls.mono HCL.out ?_
      rintro e w1 ⟨ya, ym, yc, rfl, ho1, hc1, hg1⟩
      dsimp only at hc1 hg1 ⊢
      have hb2 := bel_alloc w1 (.cells #[.string t.name, .string t.text, .bool t.leaf, .slice ya ym yc] 39)
      have hb3 := bel_alloc (w1.alloc (.cells #[.string t.name, .string t.text, .bool t.leaf, .slice ya ym yc] 39)) (.cells #[.string t.name, .string t.text, .bool t.leaf, .slice ya ym yc] 39)
      obtain ⟨fs, hown, hls⟩ := (((Rwl.out HT.out.2.2 ho1 hlt).still hb2).still hb3)
      have hx1 := drawn_lies (B := w.heap.size) (v := .slice xa k.length xc) hg1 hnm HLW.out HOW.out
      have HS1 := (show Hid _ from ho1.2.2.2.1)
      have HF := (show Hid (Out c (c + 1) w w1 ∧ Cur w1 cs a cap b off c s1 ∧ (w.heap.size < w1.heap.size + 1) ∧ Lies w1 (fun q => w.heap.size ≤ q ∧ (Value.slice xa k.length xc).ownBlock ≠ some q) t (.slice ya ym yc)) from ⟨HT.out.1.trans ho1, hc1, by have := HLW.out; have h9 : wr.heap.size ≤ w1.heap.size := ho1.2.2.2.1; omega, hx1⟩)
      have HO2 := (show Hid _ from hown)
      have HLS := (show Hid _ from hls)
      have HSRC : Hid (∀ j x, [Value.string t.name, .string t.text, .bool t.leaf, .slice ya ym yc][j]? = some x → ((w1.alloc (.cells #[.string t.name, .string t.text, .bool t.leaf, .slice ya ym yc] 39)).alloc (.cells #[.string t.name, .string t.text, .bool t.leaf, .slice ya ym yc] 39)).cell? ((⟨w1.heap.size + 1, 0, none⟩ : Addr).add j) = some x) := by
        have h9 := cell_four_box (w1.alloc (.cells #[.string t.name, .string t.text, .bool t.leaf, .slice ya ym yc] 39)) (.string t.name) (.string t.text) (.bool t.leaf) (.slice ya ym yc) 39
        rw [World.size_alloc] at h9
        exact h9
      have hk6 : k.length ≤ 4 := by omega
      have X0 := hb2
      clear hown hls hg1 hc1 ho1 hx1 HCL HT X0 hb2 hb3
      go_wp2_with (at_builtin; refine wpList_append_lies _ rfl (.tmp 15) (.tmp 17) 30 rfl w.heap.size 39 i39 _ 4 64 Try.underlying30 hi39 hz0 hz1 hz2 rfl (by decide) _ k.length (kc k fs k.length) rfl HO2.out ⟨w1.heap.size + 1, 0, none⟩ 1 1 [.string t.name, .string t.text, .bool t.leaf, .slice ya ym yc] rfl rfl ?c1 ?c2 (by decide) ?c3 (by omega) ?c5 _ rfl ?nx)
      case c1 => exact HSRC.out
      case c2 => intro u hu; simp at hu; rcases hu with rfl | rfl | rfl | rfl <;> rfl
      case c3 => unfold maxLen; omega
      case c5 => have := HF.out.2.2.1; simp; omega
      case nx =>
        intro g4 cap4 w4 hown4 hgr4 hat4 hlt4
        have hat4' : (Value.slice xa k.length xc).ownBlock = some g4 ∨ g4 = ((w1.alloc (.cells #[.string t.name, .string t.text, .bool t.leaf, .slice ya ym yc] 39)).alloc (.cells #[.string t.name, .string t.text, .bool t.leaf, .slice ya ym yc] 39)).heap.size := by simpa using hat4
        obtain ⟨hR4, hL4⟩ := Rwl.push HO2.out HLS.out ((HF.out.2.2.2.still (bel_alloc _ _)).still (bel_alloc _ _)) hown4 hgr4 hat4'
        have hub : ∀ q, (Value.slice xa k.length xc).ownBlock = some q → w.heap.size ≤ q ∧ q < w1.heap.size := fun q hq => ⟨(World.ownsRow.lt HO2.out q hq).1, by have := HOW.out q hq; have := HS1.out; omega⟩
        have hsg := hgr4.size
        simp only [World.size_alloc] at hsg
        have HG4 := (show Hid (g4 ≠ w1.heap.size) from (by
          rcases hat4' with e | e
          · have := hub g4 e; show g4 ≠ _; omega
          · simp at e; show g4 ≠ _; omega))
        have hbx4 : Box w4 w1.heap.size 39 [.string t.name, .string t.text, .bool t.leaf, .slice ya ym yc] := ((Box.new w1 39 [.string t.name, .string t.text, .bool t.leaf, .slice ya ym yc]).still (bel_alloc _ _)).keep (hgr4.block _ (by simp; omega) (fun e => by have := hub _ e.symm; omega))
        have hout4 : Out c (c + 1) w w4 := by
          have h0 := HF.out.1
          refine ⟨hgr4.os.trans h0.1, hgr4.tape.trans h0.2.1, hgr4.output.trans h0.2.2.1, by have := h0.2.2.2.1; omega, fun q hq hn => ?_⟩
          have h1 := h0.2.2.2.1
          exact (hgr4.block q (by simp; omega) (fun e => by have := hub _ e.symm; omega)).trans (((bel_alloc _ _).block q (by simp; omega)).trans (((bel_alloc _ _).block q (by omega)).trans (h0.2.2.2.2 q hq hn)))
        have hcur4 : Cur w4 cs a cap b off c s1 := HF.out.2.1.keep (fun q hq => by
          have h1 := HF.out.1.2.2.2.1
          exact (hgr4.block q (by simp; omega) (fun e => by have := hub _ e.symm; omega)).trans (((bel_alloc _ _).block q (by simp; omega)).trans ((bel_alloc _ _).block q (by omega))))
        have H4 := (show Hid (Out c (c + 1) w w4 ∧ Cur w4 cs a cap b off c s1 ∧ Box w4 w1.heap.size 39 [.string t.name, .string t.text, .bool t.leaf, .slice ya ym yc] ∧ Rwl (k ++ [t]) w.heap.size (.slice (some ⟨g4, 0, none⟩) (k.length + 1) cap4) w4 ∧ Lies w4 (fun q => w.heap.size ≤ q ∧ (Value.slice (some ⟨g4, 0, none⟩) (k.length + 1) cap4).ownBlock ≠ some q) t (.slice ya ym yc) ∧ w.heap.size ≤ w1.heap.size) from ⟨hout4, hcur4, hbx4, hR4, hL4, HF.out.1.2.2.2.1⟩)
        have HPK := (show Hid _ from pick_any 2 w4 hcur4 (by omega))
        have hp2 := cPick_lt cs 2 s1 (by omega)
        clear hown4 hgr4 hat4 hat4' hlt4 hR4 hL4 hub hbx4 hout4 hcur4 HO2 HLS HF HOW hsg
        generalize hpq : cPick cs 2 s1 = pq at *
        obtain ⟨p, s2⟩ := pq
        dsimp only at HPK HONE hp2
        clear hpq
        by_cases hp0 : p = 0
        · subst hp0
          rw [if_pos rfl] at HONE
          have heq0 : ((0 : Int) == 0) = true := rfl
          go_wp2_with fail
          refine Calls.mono HPK.out ?_
          rintro e w5 ⟨rfl, ho5, hs5, hc5⟩
          have H5 := (show Hid (Out c (c + 1) w w5 ∧ Cur w5 cs a cap b off c s2 ∧ Box w5 w1.heap.size 39 [.string t.name, .string t.text, .bool t.leaf, .slice ya ym yc] ∧ Rwl (k ++ [t]) w.heap.size (.slice (some ⟨g4, 0, none⟩) (k.length + 1) cap4) w5 ∧ Lies w5 (fun q => w.heap.size ≤ q ∧ (Value.slice (some ⟨g4, 0, none⟩) (k.length + 1) cap4).ownBlock ≠ some q) t (.slice ya ym yc) ∧ w.heap.size ≤ w1.heap.size) from
            ⟨H4.out.1.trans ho5, hc5, H4.out.2.2.1.outc ho5 (by have := H4.out.2.2.2.2.2; omega), H4.out.2.2.2.1.out ho5 hlt, H4.out.2.2.2.2.1.carry (fun _ hb _ => hb) (fun q _ hb hl => World.cell?_of_block (w := w4) (ho5.2.2.2.2 q hl (by have := hb.1; omega))) (fun _ _ _ h => lt_of_cell h), H4.out.2.2.2.2.2⟩)
          have HCL := (show Hid (Calls Try.prog 56 #[.pointer (some ⟨c, 0, none⟩), .int .i64 (1 : Nat)] w5.drew fun e w' => Drew cs a cap b off c (cTree cs 1 s2) w5.drew e w') from drawTree_any 1 s2 w5.drew hc5.drew (by omega))
          have hnm2 := cTree_nm cs 1 s2
          clear ho5 hs5 hc5 H4 HPK
          generalize hT1 : cTree cs 1 s2 = T1 at *
          obtain ⟨t2, s3⟩ := T1
          dsimp only at hnm2 HONE
          clear hT1
          have HSB := (show Hid (∀ wq, Box wq w1.heap.size 39 [.string t.name, .string t.text, .bool t.leaf, .slice ya ym yc] → (wq.cell? ⟨w1.heap.size, 0, none⟩ = some (.string t.name) ∧ wq.cell? ⟨w1.heap.size, 1, none⟩ = some (.string t.text) ∧ wq.cell? ⟨w1.heap.size, 2, none⟩ = some (.bool t.leaf) ∧ wq.cell? ⟨w1.heap.size, 3, none⟩ = some (.slice ya ym yc))) from fun wq hx => ⟨hx.cell 0 (by simp), hx.cell 1 (by simp), hx.cell 2 (by simp), hx.cell 3 (by simp)⟩)
          have HAF : Hid (∀ (w6 : World) (za : Option Addr) (zm zc : Nat), Out c (c + 1) w5.drew w6 → Cur w6 cs a cap b off c s3 → Grw t2.kids w5.drew.heap.size t2.kids.length (.slice za zm zc) w6 → (w6.cell? ⟨w1.heap.size, 0, none⟩ = some (.string t.name) ∧ w6.cell? ⟨w1.heap.size, 1, none⟩ = some (.string t.text) ∧ w6.cell? ⟨w1.heap.size, 2, none⟩ = some (.bool t.leaf) ∧ w6.cell? ⟨w1.heap.size, 3, none⟩ = some (.slice ya ym yc)) ∧ ((w6.alloc (.cells #[.string t.name, .string t.text, .bool t.leaf, .slice ya ym yc, .string t2.name, .string t2.text, .bool t2.leaf, .slice za zm zc] 39)).cell? ⟨w1.heap.size, 0, none⟩ = some (.string t.name) ∧ (w6.alloc (.cells #[.string t.name, .string t.text, .bool t.leaf, .slice ya ym yc, .string t2.name, .string t2.text, .bool t2.leaf, .slice za zm zc] 39)).cell? ⟨w1.heap.size, 1, none⟩ = some (.string t.text) ∧ (w6.alloc (.cells #[.string t.name, .string t.text, .bool t.leaf, .slice ya ym yc, .string t2.name, .string t2.text, .bool t2.leaf, .slice za zm zc] 39)).cell? ⟨w1.heap.size, 2, none⟩ = some (.bool t.leaf) ∧ (w6.alloc (.cells #[.string t.name, .string t.text, .bool t.leaf, .slice ya ym yc, .string t2.name, .string t2.text, .bool t2.leaf, .slice za zm zc] 39)).cell? ⟨w1.heap.size, 3, none⟩ = some (.slice ya ym yc)) ∧ Hid (∀ w8 : World, Below (w6.alloc (.cells #[.string t.name, .string t.text, .bool t.leaf, .slice ya ym yc, .string t2.name, .string t2.text, .bool t2.leaf, .slice za zm zc] 39)).heap.size (w6.alloc (.cells #[.string t.name, .string t.text, .bool t.leaf, .slice ya ym yc, .string t2.name, .string t2.text, .bool t2.leaf, .slice za zm zc] 39)) w8 → (w8.cell? ⟨w1.heap.size, 0, none⟩ = some (.string t.name) ∧ w8.cell? ⟨w1.heap.size, 1, none⟩ = some (.string t.text) ∧ w8.cell? ⟨w1.heap.size, 2, none⟩ = some (.bool t.leaf) ∧ w8.cell? ⟨w1.heap.size, 3, none⟩ = some (.slice ya ym yc)) ∧ ((w8.alloc (.cells #[.string ⟨#[65, 100, 100]⟩, .string ByteArray.empty, .bool false, .slice (some ⟨w6.heap.size, 0, none⟩) 2 2] 39)).cell? ⟨w1.heap.size, 0, none⟩ = some (.string t.name) ∧ (w8.alloc (.cells #[.string ⟨#[65, 100, 100]⟩, .string ByteArray.empty, .bool false, .slice (some ⟨w6.heap.size, 0, none⟩) 2 2] 39)).cell? ⟨w1.heap.size, 1, none⟩ = some (.string t.text) ∧ (w8.alloc (.cells #[.string ⟨#[65, 100, 100]⟩, .string ByteArray.empty, .bool false, .slice (some ⟨w6.heap.size, 0, none⟩) 2 2] 39)).cell? ⟨w1.heap.size, 2, none⟩ = some (.bool t.leaf) ∧ (w8.alloc (.cells #[.string ⟨#[65, 100, 100]⟩, .string ByteArray.empty, .bool false, .slice (some ⟨w6.heap.size, 0, none⟩) 2 2] 39)).cell? ⟨w1.heap.size, 3, none⟩ = some (.slice ya ym yc)) ∧ ∃ fs : Nat → Value, Hid ((w8.alloc (.cells #[.string ⟨#[65, 100, 100]⟩, .string ByteArray.empty, .bool false, .slice (some ⟨w6.heap.size, 0, none⟩) 2 2] 39)).ownsRow w.heap.size 39 4 (.slice (some ⟨g4, 0, none⟩) (k.length + 1) cap4) (k ++ [t]).length (kc (k ++ [t]) fs (k ++ [t]).length)) ∧ Hid (w.heap.size ≤ (w8.alloc (.cells #[.string ⟨#[65, 100, 100]⟩, .string ByteArray.empty, .bool false, .slice (some ⟨w6.heap.size, 0, none⟩) 2 2] 39)).heap.size) ∧ Hid (∀ (g7 cap7 : Nat) (w7 : World), w7.ownsRow w.heap.size 39 4 (.slice (some ⟨g7, 0, none⟩) ((k ++ [t]).length + 1) cap7) ((k ++ [t]).length + 1) (kc (k ++ [t]) fs (k ++ [t]).length ++ [.string ⟨#[65, 100, 100]⟩, .string ByteArray.empty, .bool false, .slice (some ⟨w6.heap.size, 0, none⟩) 2 2]) → (w8.alloc (.cells #[.string ⟨#[65, 100, 100]⟩, .string ByteArray.empty, .bool false, .slice (some ⟨w6.heap.size, 0, none⟩) 2 2] 39)).grownBy w7 (Value.slice (some ⟨g4, 0, none⟩) (k.length + 1) cap4).ownBlock → ((Value.slice (some ⟨g4, 0, none⟩) (k.length + 1) cap4).ownBlock = some g7 ∨ g7 = (w8.alloc (.cells #[.string ⟨#[65, 100, 100]⟩, .string ByteArray.empty, .bool false, .slice (some ⟨w6.heap.size, 0, none⟩) 2 2] 39)).heap.size) → (w7.cell? ⟨w1.heap.size, 0, none⟩ = some (.string t.name) ∧ w7.cell? ⟨w1.heap.size, 1, none⟩ = some (.string t.text) ∧ w7.cell? ⟨w1.heap.size, 2, none⟩ = some (.bool t.leaf) ∧ w7.cell? ⟨w1.heap.size, 3, none⟩ = some (.slice ya ym yc)) ∧ Hid (Out c (c + 1) w w7 ∧ Cur w7 cs a cap b off c s3 ∧ Rwl ((k ++ [t]) ++ [addT t t2]) w.heap.size (.slice (some ⟨g7, 0, none⟩) ((k ++ [t]).length + 1) cap7) w7)))) := fun w6 za zm zc g1 g2 g3 => by
            obtain ⟨f1, f2, f3, f4, f5, f6⟩ := H5.out
            have g1' : Out c (c + 1) w5 w6 := g1
            have s5 := f1.2.2.2.1
            have s6 := g1'.2.2.2.1
            have hbx6 := f3.outc g1' (by omega)
            have hb7 := bel_alloc w6 (.cells #[.string t.name, .string t.text, .bool t.leaf, .slice ya ym yc, .string t2.name, .string t2.text, .bool t2.leaf, .slice za zm zc] 39)
            have hL6 := f5.carry (fun _ hb _ => hb) (fun q _ hb hl => World.cell?_of_block (w := w5) (g1'.2.2.2.2 q hl (by have := hb.1; omega))) (fun _ _ _ h => lt_of_cell h)
            have hR6 := f4.out g1' hlt
            have hown4 : ∀ q, (Value.slice (some ⟨g4, 0, none⟩) (k.length + 1) cap4).ownBlock = some q → w.heap.size ≤ q ∧ q < w5.heap.size := by
              obtain ⟨fs, ho, _⟩ := f4
              exact fun q hq => World.ownsRow.lt ho q hq
            have hL2 := drawn_lies (B := w.heap.size) (v := (.slice (some ⟨g4, 0, none⟩) (k.length + 1) cap4)) g3 hnm2 s5 (fun q hq => (hown4 q hq).2)
            have hLA := lies_add hL6 hL2 ⟨by omega, fun e => by have := hown4 _ e; omega⟩
            refine ⟨HSB.out _ hbx6, HSB.out _ (hbx6.still hb7), fun w8 h8 => ?_⟩
            have hb9 := bel_alloc w8 (.cells #[.string ⟨#[65, 100, 100]⟩, .string ByteArray.empty, .bool false, .slice (some ⟨w6.heap.size, 0, none⟩) 2 2] 39)
            have h79 := bel_trans h8 hb9
            obtain ⟨fs, ho9, hl9⟩ := ((hR6.still hb7).still h8).still hb9
            have s8 := h8.size
            simp only [World.size_alloc] at s8
            refine ⟨HSB.out _ ((hbx6.still hb7).still h8), HSB.out _ ((hbx6.still hb7).still h79), fs, ho9, (by show _ ≤ _; simp; omega), fun g7 cap7 w7 e1 e2 e3 => ?_⟩
            have s7 := e2.size
            simp only [World.size_alloc] at s7
            have hlen : (k ++ [t]).length = k.length + 1 := by simp
            have hkeep : ∀ q, q < w6.heap.size → (∀ e, (Value.slice (some ⟨g4, 0, none⟩) (k.length + 1) cap4).ownBlock = some e → e ≠ q) → w7.heap[q]? = w6.heap[q]? := fun q hq hn => (e2.block q (by simp; omega) (fun e => hn q e.symm rfl)).trans ((h79.block q (by simp; omega)).trans (hb7.block q hq))
            refine ⟨HSB.out _ (hbx6.keep (hkeep _ hbx6.lt (fun e he => ?_))), ?_, ?_, (Rwl.push ho9 hl9 ((hLA.still h8).still hb9) e1 e2 e3).1⟩
            · have e' : g4 = e := by simpa [Value.ownBlock] using he
              have := HG4.out
              omega
            · refine ⟨e2.os.trans (h79.os.trans (hb7.os.trans (g1'.1.trans f1.1))), e2.tape.trans (h79.tape.trans (hb7.tape.trans (g1'.2.1.trans f1.2.1))), e2.output.trans (h79.output.trans (hb7.output.trans (g1'.2.2.1.trans f1.2.2.1))), by omega, fun q hq hn => ?_⟩
              exact (hkeep q (by omega) (fun e he => by have := hown4 e he; omega)).trans ((g1'.2.2.2.2 q (by omega) hn).trans (f1.2.2.2.2 q hq hn))
            · exact g2.keep (fun q hq => hkeep q (by omega) (fun e he => by have := hown4 e he; omega))
          have hS0 := HSB.out w5.drew (H5.out.2.2.1.keep rfl)
          have HK6 := (show Hid ((k ++ [t]).length ≤ 5) from (by show _ ≤ _; simp; omega))
          have HNE : Hid (cRow cs s = cMany cs j ((k ++ [t]) ++ [addT t t2], s3)) := by
            rw [HM.out, cMany]
            dsimp only
            rw [HONE.out]
            exact (show _ = _ from rfl)
          clear HSB H5 hnm2 HM HONE
          go_wp2_with fail
          refine wp_region_held_drew (S := (fun wq => (wq.cell? ⟨w1.heap.size, 0, none⟩ = some (.string t.name) ∧ wq.cell? ⟨w1.heap.size, 1, none⟩ = some (.string t.text) ∧ wq.cell? ⟨w1.heap.size, 2, none⟩ = some (.bool t.leaf) ∧ wq.cell? ⟨w1.heap.size, 3, none⟩ = some (.slice ya ym yc)))) (by kernel_rfl) hS0 (fun hHeld => ?_)
          refine wpAnyH_take (i := 0) (oi := { dst := some 22, op := Go.Op.move (Go.Operand.tmp 3), type := 30, pos := "l09_documents.go:215", after := #[], guard := none }) (v := ?v1) rfl (by kernel_rfl) (by kernel_rfl) (by kernel_rfl) (fun _ _ _ h => h) (Or.inl ⟨by rfl, ?h1⟩) hHeld ?r1
          case h1 => (intro w hSw; (try dsimp only at hSw); go_simp; try with_reducible rfl)
          try simp only [Act.put, List.setIfInBounds_toArray, List.set_cons_zero, List.set_cons_succ]
          refine wpAnyH_take (i := 1) (oi := { dst := some 23, op := Go.Op.load 39 (Go.Operand.tmp 5), type := 39, pos := "l09_documents.go:215", after := #[], guard := none }) (v := ?v2) rfl (by kernel_rfl) (by kernel_rfl) (by kernel_rfl) (fun _ _ _ h => h) (Or.inl ⟨by rfl, ?h2⟩) hHeld ?r2
          case h2 => (intro w hSw; (try dsimp only at hSw); go_simp; try with_reducible rfl)
          try simp only [Act.put, List.setIfInBounds_toArray, List.set_cons_zero, List.set_cons_succ]
          refine wpAnyH_take (i := 2) (oi := { dst := some 24, op := Go.Op.move (Go.Operand.tmp 0), type := 62, pos := "l09_documents.go:215", after := #[], guard := none }) (v := ?v3) rfl (by kernel_rfl) (by kernel_rfl) (by kernel_rfl) (fun _ _ _ h => h) (Or.inl ⟨by rfl, ?h3⟩) hHeld ?r3
          case h3 => (intro w hSw; (try dsimp only at hSw); go_simp; try with_reducible rfl)
          try simp only [Act.put, List.setIfInBounds_toArray, List.set_cons_zero, List.set_cons_succ]
          refine wpAnyH_ready (rs := [3]) (by kernel_rfl) (by simp) ?_
          refine AllReadyH.cons (o := { dst := some 25, op := Go.Op.call { callee := Go.Callee.value (Go.Operand.func 56), args := #[Go.Operand.tmp 24, Go.Operand.const (Go.Value.int Go.IntKind.i64 1)], argTypes := #[62, 3] }, type := 39, pos := "l09_documents.go:215", after := #[{ on := 2, ground := Go.Ground.data }], guard := none }) rfl (fun K hK => ?_) AllReadyH.nil
          go_simp
          refine Calls.mono HCL.out ?_
          rintro e w6 ⟨za, zm, zc, rfl, ho6, hc6, hg6⟩
          dsimp only at ho6 hc6 hg6 ⊢
          obtain ⟨hS6, hS7, HA8⟩ := HAF.out w6 za zm zc ho6 hc6 hg6
          clear ho6 hc6 hg6 HAF HCL
          clear hHeld
          refine hK.out _ _ hS6 (fun hHeld => ?_)
          clear hK K
          try simp only [Act.put, List.setIfInBounds_toArray, List.set_cons_zero, List.set_cons_succ]
          refine wpAnyH_ready (rs := [4]) (by kernel_rfl) (by simp) ?_
          refine AllReadyH.cons (o := { dst := some 26, op := Go.Op.buildSlice 30 2 #[(0, Go.Operand.tmp 23), (1, Go.Operand.tmp 25)], type := 30, pos := "l09_documents.go:215", after := #[{ on := 1, ground := Go.Ground.data }, { on := 3, ground := Go.Ground.data }], guard := none }) rfl (fun K hK => ?_) AllReadyH.nil
          go_simp
          clear hHeld
          refine hK.out _ _ hS7 (fun hHeld => ?_)
          clear hK K
          try simp only [Act.put, List.setIfInBounds_toArray, List.set_cons_zero, List.set_cons_succ]
          refine wpAnyH_ready (rs := [5]) (by kernel_rfl) (by simp) ?_
          refine AllReadyH.cons (o := { dst := some 27, op := Go.Op.call { callee := Go.Callee.value (Go.Operand.func 57), args := #[Go.Operand.const (Go.Value.string { data := #[65, 100, 100] }), Go.Operand.tmp 26], argTypes := #[9, 30] }, type := 39, pos := "l09_documents.go:215", after := #[{ on := 4, ground := Go.Ground.data }, { on := 3, ground := Go.Ground.chain }], guard := none }) rfl (fun K hK => ?_) AllReadyH.nil
          go_simp
          refine Calls.mono (nodeD_any _ _ _ _ _) ?_
          rintro e w8 ⟨rfl, hb8⟩
          dsimp only
          obtain ⟨hS8, hS9, fs, HO9, HZ9, HUP⟩ := HA8.out w8 hb8
          clear hb8 HA8
          clear hHeld
          refine hK.out _ _ hS8 (fun hHeld => ?_)
          clear hK K
          try simp only [Act.put, List.setIfInBounds_toArray, List.set_cons_zero, List.set_cons_succ]
          refine wpAnyH_ready (rs := [6]) (by kernel_rfl) (by simp) ?_
          refine AllReadyH.cons (o := { dst := some 28, op := Go.Op.buildSlice 30 1 #[(0, Go.Operand.tmp 27)], type := 30, pos := "l09_documents.go:215", after := #[{ on := 5, ground := Go.Ground.data }], guard := none }) rfl (fun K hK => ?_) AllReadyH.nil
          go_simp
          clear hHeld
          refine hK.out _ _ hS9 (fun hHeld => ?_)
          clear hK K
          try simp only [Act.put, List.setIfInBounds_toArray, List.set_cons_zero, List.set_cons_succ]
          refine wpAnyH_ready (rs := [7]) (by kernel_rfl) (by simp) ?_
          refine AllReadyH.cons (o := { dst := some 29, op := Go.Op.call { callee := Go.Callee.builtin Go.Builtin.append, args := #[Go.Operand.tmp 22, Go.Operand.tmp 28], argTypes := #[30, 30] }, type := 30, pos := "l09_documents.go:215", after := #[{ on := 0, ground := Go.Ground.data }, { on := 6, ground := Go.Ground.data }, { on := 5, ground := Go.Ground.chain }], guard := none }) rfl (fun K hK => ?_) AllReadyH.nil
          (refine step_append_lies _ rfl (.tmp 22) (.tmp 28) 30 rfl w.heap.size 39 i39 _ 4 64 Try.underlying30 hi39 hz0 hz1 hz2 rfl (by decide) _ (k ++ [t]).length _ (by simp [Act.eval, Act.put]) HO9.out ⟨w8.heap.size, 0, none⟩ 1 1 [.string ⟨#[65, 100, 100]⟩, .string ByteArray.empty, .bool false, .slice (some ⟨w6.heap.size, 0, none⟩) 2 2] (by simp [Act.eval, Act.put]) rfl (cell_four_box _ _ _ _ _ _) (by intro y hy; simp at hy; rcases hy with rfl | rfl | rfl | rfl <;> rfl) (by decide) (by have := HK6.out; unfold maxLen; omega) (by have := HK6.out; omega) HZ9.out _ rfl ?_; intro g7 cap7 w7 hown7 hgr7 hat7 hlt7; obtain ⟨hS10, HE7⟩ := HUP.out g7 cap7 w7 hown7 hgr7 hat7; clear hown7 hgr7 hat7 hlt7 HUP HO9 HZ9; have HE8 := (show Hid (Out c (c + 1) w w7 ∧ Cur w7 cs a cap b off c s3 ∧ Rwl ((k ++ [t]) ++ [addT t t2]) w.heap.size (.slice (some ⟨g7, 0, none⟩) ((k ++ [t]) ++ [addT t t2]).length cap7) w7) from (by rw [show ((k ++ [t]) ++ [addT t t2]).length = (k ++ [t]).length + 1 from by simp]; exact HE7.out)); clear HE7)
          clear hHeld
          refine hK.out _ _ hS10 (fun hHeld => ?_)
          clear hK K
          try simp only [Act.put, List.setIfInBounds_toArray, List.set_cons_zero, List.set_cons_succ]
          refine wpAnyH_take (i := 8) (oi := { dst := some 3, op := Go.Op.assign (Go.Operand.tmp 29), type := 30, pos := "l09_documents.go:215", after := #[{ on := 7, ground := Go.Ground.data }, { on := 7, ground := Go.Ground.chain }, { on := 0, ground := Go.Ground.phase }, { on := 1, ground := Go.Ground.phase }, { on := 2, ground := Go.Ground.phase }, { on := 3, ground := Go.Ground.phase }, { on := 4, ground := Go.Ground.phase }, { on := 5, ground := Go.Ground.phase }, { on := 6, ground := Go.Ground.phase }, { on := 7, ground := Go.Ground.phase }], guard := none }) (v := ?v4) rfl (by kernel_rfl) (by kernel_rfl) (by kernel_rfl) (fun _ _ _ h => h) (Or.inl ⟨by rfl, ?h4⟩) hHeld ?r4
          case h4 => (intro w hSw; (try dsimp only at hSw); go_simp; try with_reducible rfl)
          try simp only [Act.put, List.setIfInBounds_toArray, List.set_cons_zero, List.set_cons_succ]
          refine wpAnyH_done (by kernel_rfl) ?_ _
          go_wp2_with fail
          exact ⟨⟨j, (k ++ [t]) ++ [addT t t2], s3, some ⟨g7, 0, none⟩, cap7, by simp, by simp [hsub2], by simp; omega, HNE, HE8⟩, by simp [intOf]⟩
        · rw [if_neg hp0] at HONE
          have hne0 : ((p : Int) == 0) = false := by simp; omega
          go_wp2_with fail
          refine Calls.mono HPK.out ?_
          rintro e w5 ⟨rfl, ho5, hs5, hc5⟩
          have H5 := (show Hid (Out c (c + 1) w w5 ∧ Cur w5 cs a cap b off c s2 ∧ Rwl (k ++ [t]) w.heap.size (.slice (some ⟨g4, 0, none⟩) (k ++ [t]).length cap4) w5) from
            ⟨H4.out.1.trans ho5, hc5, by
              have hlen : (k ++ [t]).length = k.length + 1 := by simp
              rw [hlen]
              exact H4.out.2.2.2.1.out ho5 hlt⟩)
          have HNE : Hid (cRow cs s = cMany cs j (k ++ [t], s2)) := by
            rw [HM.out, cMany]
            dsimp only
            rw [HONE.out]
            exact (show _ = _ from rfl)
          clear ho5 hs5 hc5 H4 HPK HM HONE
          go_wp2_with fail
          exact ⟨⟨j, k ++ [t], s2, _, _, by simp, by simp [hsub2], by simp; omega, HNE, H5⟩, by simp [intOf]⟩
    · obtain rfl : j = 0 := by omega
      have HE := (show Hid (DrewR cs a cap b off c (cRow cs s) w (.returned (.slice xa k.length xc)) wr) from ⟨xa, k.length, xc, rfl, HT.out.1, by rw [HM.out]; exact HT.out.2.1, by rw [HM.out]; exact HT.out.2.2⟩)
      clear HM HT
      go_wp2_with fail
      go_ret
      exact HE.out
end Go.Proofs.Ytofobmdljelmgaa
