import Derived.Test.YtofobmdljelmgaaIt
import Derived.BigRegion
import Derived.Laws.EntriesVeiled
/-! The program's Share. -/
namespace Go.Proofs.Ytofobmdljelmgaa
open Go.RowKit Go.Deep
set_option linter.unusedVariables false
set_option maxRecDepth 100000
set_option linter.unusedSimpArgs false

/-- All that stands when the loop begins. -/
theorem IsI.start {W0 w1 : World} {g : Nat} (k : List Tr) (hbx : Box w1 g 27 [.slice none 0 0, .slice none 0 0]) (hb : Below g W0 w1) :
    IsI g (w1.heap.size + 1 + 1) w1.heap.size (w1.heap.size + 1) W0 (((w1.alloc (.map #[] 0)).alloc (.map #[] 0)).alloc (.cells #[.map (some w1.heap.size), .map (some (w1.heap.size + 1)), .slice none 0 0, .slice none 0 0] 73)) k (fun _ => False) (.slice none 0 0) (.slice none 0 0) [[]] [] [] 0 := by
  have e1 : (w1.alloc (.map #[] 0)).heap.size = w1.heap.size + 1 := by simp
  have e2 : ((w1.alloc (.map #[] 0)).alloc (.map #[] 0)).heap.size = w1.heap.size + 1 + 1 := by simp
  have q1 := bel_alloc w1 (.map #[] 0)
  have q2 := bel_alloc (w1.alloc (.map #[] 0)) (.map #[] 0)
  have q3 := bel_alloc ((w1.alloc (.map #[] 0)).alloc (.map #[] 0)) (.cells #[.map (some w1.heap.size), .map (some (w1.heap.size + 1)), .slice none 0 0, .slice none 0 0] 73)
  have hgl := hbx.lt
  have m1 := Mn.new w1 122
  have m2 := Mn.new (w1.alloc (.map #[] 0)) 125
  rw [e1] at m2
  have b3 := Box.new ((w1.alloc (.map #[] 0)).alloc (.map #[] 0)) 73 [.map (some w1.heap.size), .map (some (w1.heap.size + 1)), .slice none 0 0, .slice none 0 0]
  rw [e2] at b3
  refine ⟨((hbx.still q1).still q2).still q3, ⟨b3, ?_, ?_, LOK.nil, ?_, ?_, ?_, fun q hq => ?_, ⟨by omega, by omega, by omega⟩⟩, ?_, ?_, fun q hq => ?_, by simp⟩
  · exact (m1.keep (q2.block _ (by omega))).keep (q3.block _ (by omega))
  · exact m2.keep (q3.block _ (by omega))
  · rw [pk_zero]; exact ⟨rfl, fun i p h => by simp at h⟩
  · rw [pk_zero]; exact DN.nil _ _
  · rw [pk_zero]; simp
  · refine ⟨?_, fun e => e, fun e => (by cases e)⟩
    rcases hq with e | e | e <;> omega
  · rw [pk_zero]; exact own_nil _ _ _ _
  · exact ((hb.alloc (by omega) _).alloc (by omega) _).alloc (by omega) _
  · refine ⟨fun e => e, fun e => (by cases e), ?_⟩
    rcases hq with e | e
    · omega
    · cases e
set_option maxHeartbeats 12800000 in
theorem iShare {S : Nat → Prop} (k : List Tr) (v : Value) (w : World) (hS : ∀ q, S q → q < w.heap.size) (h : Trs w S k v) :
    Calls Try.prog 9 #[v] w (ShT k w) := by
  have hb0 := bel_alloc w (.cells #[.slice none 0 0, .slice none 0 0] 27)
  have hB0 := Box.new w 27 [.slice none 0 0, .slice none 0 0]
  have HB0 := (show Hid (Below w.heap.size w (w.alloc (.cells #[.slice none 0 0, .slice none 0 0] 27)) ∧ Box (w.alloc (.cells #[.slice none 0 0, .slice none 0 0] 27)) w.heap.size 27 [.slice none 0 0, .slice none 0 0]) from ⟨hb0, hB0⟩)
  have HRS := (show Hid (∀ wq, Box wq w.heap.size 27 [.slice none 0 0, .slice none 0 0] → ∀ x y, ((wq.setCell ⟨w.heap.size, 0, none⟩ x).setCell ⟨w.heap.size, 1, none⟩ y).cell? ⟨w.heap.size, 0, none⟩ = some x ∧ ((wq.setCell ⟨w.heap.size, 0, none⟩ x).setCell ⟨w.heap.size, 1, none⟩ y).cell? ⟨w.heap.size, 1, none⟩ = some y) from fun wq hb x y => by
    have hY := (hb.set 0 x).set 1 y
    exact ⟨hY.cell 0 (by simp), hY.cell 1 (by simp)⟩)
  have HT : Hid (Calls Try.prog 31 #[v, .func (.func 32) #[] #[]] (w.alloc (.cells #[.slice none 0 0, .slice none 0 0] 27)) fun e w' => e = .returned (.bool (k.all Tr.ok)) ∧ Below (w.alloc (.cells #[.slice none 0 0, .slice none 0 0] 27)).heap.size (w.alloc (.cells #[.slice none 0 0, .slice none 0 0] 27)) w') := allOK34 k v _ (h.still hb0)
  obtain ⟨a, cap, b, off, sv, rfl, hc, hm, ha, hcell, hr⟩ := h
  have HC := (show Hid _ from hcell); clear hcell
  have HA := (show Hid _ from ha); clear ha
  have HR := (show Hid _ from hr); clear hr
  have HS := (show Hid _ from hS); clear hS
  unfold maxLen at hm
  clear hb0 hB0
  have HBAD := (show Hid (tksB k = false → ∀ w1, Below w.heap.size w w1 → ShT k w (.returned (.tuple #[.agg #[.slice none 0 0, .slice none 0 0], .int .i64 1])) w1) from fun ht w1 hb => by
    have h1 : shC k = 1 ∧ shN k = ([], []) := by unfold shC shN; rw [ht]; exact ⟨rfl, rfl⟩
    exact ⟨.slice none 0 0, .slice none 0 0, by rw [h1.1], hb, by rw [h1.2]; exact DgR.nil _ _⟩)
  by_cases hk : k.length ≤ 20
  case neg =>
    have ht : tksB k = false := by unfold tksB; simp [hk]
    have i0 : decide ((k.length : Int) > 20) = true := by simp; omega
    have R0 : (w.alloc (.cells #[.slice none 0 0, .slice none 0 0] 27)).cell? ⟨w.heap.size, 0, none⟩ = some (.slice none 0 0) := HB0.out.2.cell 0 (by simp)
    obtain ⟨o0, o1⟩ := HRS.out _ HB0.out.2 (.slice none 0 0) (.slice none 0 0)
    have F0 := HB0.out.2.frozen 0
    have F1 := HB0.out.2.frozen 1
    have R1 : (w.alloc (.cells #[.slice none 0 0, .slice none 0 0] 27)).cell? ⟨w.heap.size, 1, none⟩ = some (.slice none 0 0) := HB0.out.2.cell 1 (by simp)
    have HE := (show Hid _ from HBAD.out ht _ HB0.out.1)
    clear hk ht HT HC HA HR HS HBAD
    go_enter Try.func9, Try.ntmps9
    go_wp2_with fail
    refine bodyPost_ret (v := .tuple #[.agg #[.slice none 0 0, .slice none 0 0], .int .i64 1]) (by simp [results, Try.results9, go_sem, R0, R1]) rfl ?_
    exact HE.out
  case pos =>
  have i0 : decide ((k.length : Int) > 20) = false := by simp; omega
  by_cases hall : k.all Tr.ok = true
  case neg =>
    have hall : k.all Tr.ok = false := by simpa using hall
    have ht : tksB k = false := by unfold tksB; rw [hall]; simp
    rw [hall] at HT
    have HBD := (show Hid _ from HBAD.out ht)
    clear ht HC HA HR HS HBAD hall
    go_enter Try.func9, Try.ntmps9
    go_wp2_with fail
    go_at_call 31
    refine Calls.mono HT.out ?_
    rintro e w1 ⟨rfl, hb1⟩
    have hbx := HB0.out.2.still hb1
    have R0 : w1.cell? ⟨w.heap.size, 0, none⟩ = some (.slice none 0 0) := hbx.cell 0 (by simp)
    have R1 : w1.cell? ⟨w.heap.size, 1, none⟩ = some (.slice none 0 0) := hbx.cell 1 (by simp)
    have F0 := hbx.frozen 0
    have F1 := hbx.frozen 1
    obtain ⟨o0, o1⟩ := HRS.out w1 hbx (.slice none 0 0) (.slice none 0 0)
    have HE := (show Hid _ from HBD.out _ (((bel_trans HB0.out.1 hb1).setCell (p := ⟨w.heap.size, 0, none⟩) (Nat.le_refl _) (.slice none 0 0)).setCell (p := ⟨w.heap.size, 1, none⟩) (Nat.le_refl _) (.slice none 0 0)))
    clear hbx hb1 HT HBD
    go_wp2_with fail
    refine bodyPost_ret (v := .tuple #[.agg #[.slice none 0 0, .slice none 0 0], .int .i64 1]) (by simp [results, Try.results9, go_sem, o0, o1]) rfl ?_
    exact HE.out
  case pos =>
    have ht : tksB k = true := by unfold tksB; rw [hall]; simp [hk]
    rw [hall] at HT
    have HF := (show Hid (shC k = 0 ∧ shN k = putTs k []) from (by unfold shC shN; rw [ht]; exact ⟨rfl, rfl⟩))
    have HLEN := (show Hid _ from tks_len ht)
    clear ht HBAD hall
    obtain ⟨i3, hi3, hz0, hz1, hz2⟩ := info_parts info3i
    go_enter Try.func9, Try.ntmps9
    go_wp2_with fail
    go_at_call 31
    refine Calls.mono HT.out ?_
    rintro e w1 ⟨rfl, hb1⟩
    have HI0 := (show Hid _ from IsI.start k (HB0.out.2.still hb1) (bel_trans HB0.out.1 hb1))
    clear hb1 HT HB0
    have hmk := @run_makeMap Try.prog
    go_wp2_with fail
    clear hmk
    generalize hW2 : (((w1.alloc (.map #[] 0)).alloc (.map #[] 0)).alloc (.cells #[.map (some w1.heap.size), .map (some (w1.heap.size + 1)), .slice none 0 0, .slice none 0 0] 73)) = W2 at *
    generalize hgs : w1.heap.size + 1 + 1 = gs at *
    generalize hb2 : w1.heap.size + 1 = b2 at *
    generalize hb1 : w1.heap.size = b1 at *
    clear hW2 hgs hb2 hb1
    go_loopw [21] (fun i wr => ∃ (j : Nat) (u r : Value) (K : Nat → Prop) (DL : List (List Nat)) (LL : List (Nat × Nat)) (MM : List (ByteArray × ByteArray × Bool × Nat)), i = .int .i64 j ∧ j ≤ k.length ∧ Hid (IsI w.heap.size gs b1 b2 w wr k K u r DL LL MM j)) (fun i _ => k.length - (intOf i).toNat)
    case atStart => exact ⟨0, _, _, _, _, _, _, rfl, Nat.zero_le _, HI0.out⟩
    case round =>
    obtain ⟨j, u, r, K, DL, LL, MM, rfl, hj, HJ⟩ := hrel
    by_cases hlt : j < k.length
    · obtain ⟨rfl, hSb⟩ := HA.out (by omega)
      obtain ⟨c0, c1, c2, c3⟩ := HC.out j hlt
      have hbB := HS.out b hSb
      rw [← HJ.out.bel.cell (by exact hbB)] at c0 c1 c2 c3
      have hl := HR.out j hlt
      obtain ⟨mm, hmm⟩ : ∃ mm, (putT k[j] (pk k j []).1).2 = mm := ⟨_, rfl⟩
      have h1 := pk_len k j []
      have h2 := Tr.cntL_take_succ k j hlt
      have h3 := Tr.cntL_take_le k (j + 1)
      have h4 := HLEN.out
      have h5 := HJ.out.ll
      have hjb : j ≤ 1000000 := by omega
      simp only [List.length_nil] at h1
      have hwl : w.heap.size ≤ wr.heap.size := by have := HJ.out.br.lt; omega
      have HCALL : Hid (Calls Try.prog 33 #[.pointer (some ⟨gs, 0, none⟩), k[j].val (sv j)] (wr.alloc (.cells #[.string k[j].name, .string k[j].text, .bool k[j].leaf, sv j] 39)).drew fun e w' => ∃ u' K' DL' LL' MM', e = .returned (.int .i64 (mm : Nat)) ∧ NS w.heap.size gs b1 b2 r w' u' (putT k[j] (pk k j []).1).1 K' DL' LL' MM' ∧ FN gs b1 b2 (wr.alloc (.cells #[.string k[j].name, .string k[j].text, .bool k[j].leaf, sv j] 39)) w' u u' ∧ (∀ b, K' b → K b ∨ wr.heap.size ≤ b) ∧ LL'.length + 1 ≤ LL.length + Tr.cnt k[j]) := by
        have hba : Below wr.heap.size wr (wr.alloc (.cells #[.string k[j].name, .string k[j].text, .bool k[j].leaf, sv j] 39)).drew := (bel_alloc wr (.cells #[.string k[j].name, .string k[j].text, .bool k[j].leaf, sv j] 39)).drew
        have hbl := hl.low HS.out HJ.out.bel
        refine Calls.mono (num36 (by
          obtain ⟨ra, rp, e, _⟩ := own_ne HJ.out.rt
          rw [e]
          rfl) HS.out k[j] (sv j) u (pk k j []).1 K DL LL MM _ (hbl.still hba) (HJ.out.s.still hba) (Nat.le_trans hwl hba.size) (by omega) (by omega)) ?_
        rintro e w' ⟨u', K', DL', LL', MM', e1, e2, e3, e4, e5, e6⟩
        exact ⟨u', K', DL', LL', MM', by rw [e1, hmm], e2, ⟨e3.os, e3.tape, e3.output, e3.size, e3.block, e3.at'⟩, fun b hb => by
          have hs := hba.size
          rcases e4 b hb with e | e
          · exact .inl e
          · exact .inr (by omega), e6⟩
      obtain ⟨a3, l3, p3, e3⟩ := hl.form
      rw [e3] at c3 HCALL
      simp only [Tr.val] at HCALL
      clear e3 hl
      generalize hknm : k[j].name = knm at *
      generalize hktx : k[j].text = ktx at *
      generalize hklf : k[j].leaf = klf at *
      clear hknm hktx hklf
      have hbk := bel_alloc wr (.cells #[.string knm, .string ktx, .bool klf, .slice a3 l3 p3] 39)
      have hkb := Box.new wr 39 [.string knm, .string ktx, .bool klf, .slice a3 l3 p3]
      have HAFT : Hid (∀ (w1 : World) (u' : Value) (K' : Nat → Prop) (DL' : List (List Nat)) (LL' : List (Nat × Nat)) (MM' : List (ByteArray × ByteArray × Bool × Nat)), NS w.heap.size gs b1 b2 r w1 u' (putT k[j] (pk k j []).1).1 K' DL' LL' MM' → FN gs b1 b2 (wr.alloc (.cells #[.string knm, .string ktx, .bool klf, .slice a3 l3 p3] 39)) w1 u u' → (∀ b, K' b → K b ∨ wr.heap.size ≤ b) → LL'.length + 1 ≤ LL.length + Tr.cnt k[j] →
          w1.cell? ⟨gs, 3, none⟩ = some r ∧ (w1.alloc (.cells #[.int .i64 (mm : Nat)] 3)).cell? ⟨gs, 3, none⟩ = some r ∧ (w1.cell? ⟨wr.heap.size, 0, none⟩ = some (.string knm) ∧ w1.cell? ⟨wr.heap.size, 1, none⟩ = some (.string ktx) ∧ w1.cell? ⟨wr.heap.size, 2, none⟩ = some (.bool klf) ∧ w1.cell? ⟨wr.heap.size, 3, none⟩ = some (.slice a3 l3 p3)) ∧ ((w1.alloc (.cells #[.int .i64 (mm : Nat)] 3)).cell? ⟨wr.heap.size, 0, none⟩ = some (.string knm) ∧ (w1.alloc (.cells #[.int .i64 (mm : Nat)] 3)).cell? ⟨wr.heap.size, 1, none⟩ = some (.string ktx) ∧ (w1.alloc (.cells #[.int .i64 (mm : Nat)] 3)).cell? ⟨wr.heap.size, 2, none⟩ = some (.bool klf) ∧ (w1.alloc (.cells #[.int .i64 (mm : Nat)] 3)).cell? ⟨wr.heap.size, 3, none⟩ = some (.slice a3 l3 p3)) ∧ Hid ((w1.alloc (.cells #[.int .i64 (mm : Nat)] 3)).ownsRow (w.heap.size + 1) 3 1 r j (iv (ins (pk k j []).2))) ∧ Hid (w.heap.size + 1 ≤ (w1.alloc (.cells #[.int .i64 (mm : Nat)] 3)).heap.size) ∧
          Hid (∀ (g7 cap7 : Nat) (w7 : World), w7.ownsRow (w.heap.size + 1) 3 1 (.slice (some ⟨g7, 0, none⟩) (j + 1) cap7) (j + 1) (iv (ins (pk k j []).2) ++ [.int .i64 (mm : Nat)]) → (w1.alloc (.cells #[.int .i64 (mm : Nat)] 3)).grownBy w7 r.ownBlock → (r.ownBlock = some g7 ∨ g7 = w1.heap.size + 1) → (w7.cell? ⟨wr.heap.size, 0, none⟩ = some (.string knm) ∧ w7.cell? ⟨wr.heap.size, 1, none⟩ = some (.string ktx) ∧ w7.cell? ⟨wr.heap.size, 2, none⟩ = some (.bool klf) ∧ w7.cell? ⟨wr.heap.size, 3, none⟩ = some (.slice a3 l3 p3)) ∧ w7.cell? ⟨gs, 3, none⟩ = some r ∧ w7.frozen? ⟨gs, 3, none⟩ = false ∧ ((w7.setCell ⟨gs, 3, none⟩ (.slice (some ⟨g7, 0, none⟩) (j + 1) cap7)).cell? ⟨wr.heap.size, 0, none⟩ = some (.string knm) ∧ (w7.setCell ⟨gs, 3, none⟩ (.slice (some ⟨g7, 0, none⟩) (j + 1) cap7)).cell? ⟨wr.heap.size, 1, none⟩ = some (.string ktx) ∧ (w7.setCell ⟨gs, 3, none⟩ (.slice (some ⟨g7, 0, none⟩) (j + 1) cap7)).cell? ⟨wr.heap.size, 2, none⟩ = some (.bool klf) ∧ (w7.setCell ⟨gs, 3, none⟩ (.slice (some ⟨g7, 0, none⟩) (j + 1) cap7)).cell? ⟨wr.heap.size, 3, none⟩ = some (.slice a3 l3 p3)) ∧ Hid (IsI w.heap.size gs b1 b2 w (w7.setCell ⟨gs, 3, none⟩ (.slice (some ⟨g7, 0, none⟩) (j + 1) cap7)) k K' u' (.slice (some ⟨g7, 0, none⟩) (j + 1) cap7) DL' LL' MM' (j + 1)))) := fun w1 u' K' DL' LL' MM' e1 e2 e3 e4 => by
        have hf : FN gs b1 b2 wr w1 u u' := (FN.of_below hbk).trans e2
        obtain ⟨q1, q2, q3⟩ := HJ.out.called hf e3
        have hgl := HJ.out.s.box.lt
        have hb1l := HJ.out.s.m1.lt
        have hb2l := HJ.out.s.m2.lt
        have hsz := e2.size
        have hsk := hkb.lt
        have hkb1 := hkb.keep (e2.block _ hsk (by omega) (by omega) (by omega) (fun e => by have := HJ.out.s.dn.lt _ (.inr e); omega))
        have hba := bel_alloc w1 (.cells #[.int .i64 (mm : Nat)] 3)
        have hkb2 := hkb1.still hba
        refine ⟨e1.box.cell 3 (by simp), (e1.box.still hba).cell 3 (by simp), ⟨hkb1.cell 0 (by simp), hkb1.cell 1 (by simp), hkb1.cell 2 (by simp), hkb1.cell 3 (by simp)⟩, ⟨hkb2.cell 0 (by simp), hkb2.cell 1 (by simp), hkb2.cell 2 (by simp), hkb2.cell 3 (by simp)⟩, own_keep1 q2 (fun q hq => hba.block q (World.ownsRow.lt q2 q hq).2), ?_, ?_⟩
        · have := q1.lt
          have := hba.size
          show _ ≤ _
          omega
        · intro g7 cap7 w7 hown hgr hat
          have hgr1 := hgr.block wr.heap.size (by have := hba.size; omega) (fun e => by have := HJ.out.lt _ (.inr e.symm); omega)
          have hkb7 := hkb2.keep hgr1
          have hkb8 := hkb7.past (q := gs) (o := 3) (u := .slice (some ⟨g7, 0, none⟩) (j + 1) cap7) (by omega)
          obtain ⟨x1, x2⟩ := HJ.out.next hlt e1 hf e3 e4 _ (by rw [hmm]; exact hown) hgr hat
          exact ⟨⟨hkb7.cell 0 (by simp), hkb7.cell 1 (by simp), hkb7.cell 2 (by simp), hkb7.cell 3 (by simp)⟩, x1.cell 3 (by simp), x1.frozen 3, ⟨hkb8.cell 0 (by simp), hkb8.cell 1 (by simp), hkb8.cell 2 (by simp), hkb8.cell 3 (by simp)⟩, x2⟩
      have hS0 : ((wr.alloc (.cells #[.string knm, .string ktx, .bool klf, .slice a3 l3 p3] 39)).drew.cell? ⟨wr.heap.size, 0, none⟩ = some (.string knm) ∧ (wr.alloc (.cells #[.string knm, .string ktx, .bool klf, .slice a3 l3 p3] 39)).drew.cell? ⟨wr.heap.size, 1, none⟩ = some (.string ktx) ∧ (wr.alloc (.cells #[.string knm, .string ktx, .bool klf, .slice a3 l3 p3] 39)).drew.cell? ⟨wr.heap.size, 2, none⟩ = some (.bool klf) ∧ (wr.alloc (.cells #[.string knm, .string ktx, .bool klf, .slice a3 l3 p3] 39)).drew.cell? ⟨wr.heap.size, 3, none⟩ = some (.slice a3 l3 p3)) := ⟨hkb.cell 0 (by simp), hkb.cell 1 (by simp), hkb.cell 2 (by simp), hkb.cell 3 (by simp)⟩
      have hgb := HJ.out.s.box.still hbk
      have X0 : (wr.alloc (.cells #[.string knm, .string ktx, .bool klf, .slice a3 l3 p3] 39)).cell? ⟨gs, 3, none⟩ = some r := hgb.cell 3 (by simp)
      have X1 : (wr.alloc (.cells #[.string knm, .string ktx, .bool klf, .slice a3 l3 p3] 39)).drew.cell? ⟨gs, 3, none⟩ = some r := hgb.cell 3 (by simp)
      clear hbk hkb hgb hmm h1 h2 h3 h4 h5 hwl
      go_wp2_with fail
      refine wp_region_held_drew (S := (fun wq => wq.cell? ⟨wr.heap.size, 0, none⟩ = some (.string knm) ∧ wq.cell? ⟨wr.heap.size, 1, none⟩ = some (.string ktx) ∧ wq.cell? ⟨wr.heap.size, 2, none⟩ = some (.bool klf) ∧ wq.cell? ⟨wr.heap.size, 3, none⟩ = some (.slice a3 l3 p3))) (by kernel_rfl) hS0 (fun hHeld => ?_)
      refine wpAnyH_take (i := 0) (oi := { dst := some 25, op := Go.Op.fieldAddr 73 (Go.Operand.tmp 4) 2, type := 0, pos := "l09_documents.go:74", after := #[], guard := none }) (v := ?v1) rfl (by kernel_rfl) (by kernel_rfl) (by kernel_rfl) (fun _ _ _ h => h) (Or.inl ⟨by rfl, ?h1⟩) hHeld ?r1
      case h1 => (intro w hSw; (try dsimp only at hSw); go_simp; try with_reducible rfl)
      try simp only [Act.put, List.setIfInBounds_toArray, List.set_cons_zero, List.set_cons_succ]
      refine wpAnyH_take (i := 1) (oi := { dst := some 26, op := Go.Op.fieldAddr 27 (Go.Operand.tmp 25) 1, type := 0, pos := "l09_documents.go:74", after := #[{ on := 0, ground := Go.Ground.data }], guard := none }) (v := ?v2) rfl (by kernel_rfl) (by kernel_rfl) (by kernel_rfl) (fun _ _ _ h => h) (Or.inl ⟨by rfl, ?h2⟩) hHeld ?r2
      case h2 => (intro w hSw; (try dsimp only at hSw); go_simp; try with_reducible rfl)
      try simp only [Act.put, List.setIfInBounds_toArray, List.set_cons_zero, List.set_cons_succ]
      refine wpAnyH_take (i := 3) (oi := { dst := some 28, op := Go.Op.load 39 (Go.Operand.tmp 6), type := 39, pos := "l09_documents.go:74", after := #[], guard := none }) (v := ?v3) rfl (by kernel_rfl) (by kernel_rfl) (by kernel_rfl) (fun _ _ _ h => h) (Or.inl ⟨by rfl, ?h3⟩) hHeld ?r3
      case h3 => (intro w hSw; (try dsimp only at hSw); go_simp; try with_reducible rfl)
      try simp only [Act.put, List.setIfInBounds_toArray, List.set_cons_zero, List.set_cons_succ]
      refine wpAnyH_ready (rs := [2, 4]) (by kernel_rfl) (by simp) ?_
      refine AllReadyH.cons (o := { dst := some 27, op := Go.Op.load 25 (Go.Operand.tmp 26), type := 25, pos := "l09_documents.go:74", after := #[{ on := 1, ground := Go.Ground.data }], guard := none }) rfl (fun K hK => ?_) (AllReadyH.cons (o := { dst := some 29, op := Go.Op.call { callee := Go.Callee.value (Go.Operand.func 33), args := #[Go.Operand.tmp 4, Go.Operand.tmp 28], argTypes := #[73, 39] }, type := 3, pos := "l09_documents.go:74", after := #[{ on := 3, ground := Go.Ground.data }], guard := none }) rfl (fun K hK => ?_) AllReadyH.nil)
      · go_simp
        clear hHeld
        refine hK.out _ _ hS0 (fun hHeld => ?_)
        clear hK K
        try simp only [Act.put, List.setIfInBounds_toArray, List.set_cons_zero, List.set_cons_succ]
        refine wpAnyH_ready (rs := [4]) (by kernel_rfl) (by simp) ?_
        refine AllReadyH.cons (o := { dst := some 29, op := Go.Op.call { callee := Go.Callee.value (Go.Operand.func 33), args := #[Go.Operand.tmp 4, Go.Operand.tmp 28], argTypes := #[73, 39] }, type := 3, pos := "l09_documents.go:74", after := #[{ on := 3, ground := Go.Ground.data }], guard := none }) rfl (fun K hK => ?_) AllReadyH.nil
        go_simp
        refine Calls.mono HCALL.out ?_
        rintro e w1 ⟨u1, K1, DL1, LL1, MM1, rfl, hs1, hf1, hk1, hl1⟩
        dsimp only
        obtain ⟨R1, R2, hSa, hSb, HO1, HZ1, HAP⟩ := HAFT.out w1 u1 K1 DL1 LL1 MM1 hs1 hf1 hk1 hl1
        clear hs1 hf1 hk1 hl1
        clear hHeld
        refine hK.out _ _ hSa (fun hHeld => ?_)
        clear hK K
        try simp only [Act.put, List.setIfInBounds_toArray, List.set_cons_zero, List.set_cons_succ]
        refine wpAnyH_ready (rs := [5]) (by kernel_rfl) (by simp) ?_
        refine AllReadyH.cons (o := { dst := some 30, op := Go.Op.buildSlice 25 1 #[(0, Go.Operand.tmp 29)], type := 25, pos := "l09_documents.go:74", after := #[{ on := 4, ground := Go.Ground.data }], guard := none }) rfl (fun K hK => ?_) AllReadyH.nil
        go_simp
        clear hHeld
        refine hK.out _ _ hSb (fun hHeld => ?_)
        clear hK K
        try simp only [Act.put, List.setIfInBounds_toArray, List.set_cons_zero, List.set_cons_succ]
        refine wpAnyH_ready (rs := [6]) (by kernel_rfl) (by simp) ?_
        refine AllReadyH.cons (o := { dst := some 31, op := Go.Op.call { callee := Go.Callee.builtin Go.Builtin.append, args := #[Go.Operand.tmp 27, Go.Operand.tmp 30], argTypes := #[25, 25] }, type := 25, pos := "l09_documents.go:74", after := #[{ on := 2, ground := Go.Ground.data }, { on := 5, ground := Go.Ground.data }, { on := 4, ground := Go.Ground.chain }], guard := none }) rfl (fun K hK => ?_) AllReadyH.nil
        (refine step_append_lies _ rfl (.tmp 27) (.tmp 30) 25 rfl (w.heap.size + 1) 3 i3 _ 1 8 Try.underlying25 hi3 hz0 hz1 hz2 rfl (by decide) _ j _ (by simp [Act.eval, Act.put]) HO1.out ⟨w1.heap.size, 0, none⟩ 1 1 [.int .i64 (mm : Nat)] (by simp [Act.eval, Act.put]) rfl (World.news_of_block (cs := #[.int .i64 (mm : Nat)]) (blk_alloc_new _ _)) (by intro y hy; simp at hy; subst hy; rfl) (by decide) (by unfold maxLen; omega) (by omega) HZ1.out _ rfl ?_; intro g7 cap7 w7 hown7 hgr7 hat7 hlt7; obtain ⟨hS7, n7, f7, hS8, HE7⟩ := HAP.out g7 cap7 w7 hown7 hgr7 (by simpa using hat7); clear hown7 hgr7 hat7 hlt7)
        clear hHeld
        refine hK.out _ _ hS7 (fun hHeld => ?_)
        clear hK K
        try simp only [Act.put, List.setIfInBounds_toArray, List.set_cons_zero, List.set_cons_succ]
        refine wpAnyH_take (i := 7) (oi := { dst := some 32, op := Go.Op.fieldAddr 73 (Go.Operand.tmp 4) 2, type := 0, pos := "l09_documents.go:74", after := #[{ on := 0, ground := Go.Ground.phase }, { on := 1, ground := Go.Ground.phase }, { on := 2, ground := Go.Ground.phase }, { on := 3, ground := Go.Ground.phase }, { on := 4, ground := Go.Ground.phase }, { on := 5, ground := Go.Ground.phase }, { on := 6, ground := Go.Ground.phase }], guard := none }) (v := ?v4) rfl (by kernel_rfl) (by kernel_rfl) (by kernel_rfl) (fun _ _ _ h => h) (Or.inl ⟨by rfl, ?h4⟩) hHeld ?r4
        case h4 => (intro w hSw; (try dsimp only at hSw); go_simp; try with_reducible rfl)
        try simp only [Act.put, List.setIfInBounds_toArray, List.set_cons_zero, List.set_cons_succ]
        refine wpAnyH_take (i := 8) (oi := { dst := some 33, op := Go.Op.fieldAddr 27 (Go.Operand.tmp 32) 1, type := 0, pos := "l09_documents.go:74", after := #[{ on := 7, ground := Go.Ground.data }, { on := 0, ground := Go.Ground.phase }, { on := 1, ground := Go.Ground.phase }, { on := 2, ground := Go.Ground.phase }, { on := 3, ground := Go.Ground.phase }, { on := 4, ground := Go.Ground.phase }, { on := 5, ground := Go.Ground.phase }, { on := 6, ground := Go.Ground.phase }], guard := none }) (v := ?v5) rfl (by kernel_rfl) (by kernel_rfl) (by kernel_rfl) (fun _ _ _ h => h) (Or.inl ⟨by rfl, ?h5⟩) hHeld ?r5
        case h5 => (intro w hSw; (try dsimp only at hSw); go_simp; try with_reducible rfl)
        try simp only [Act.put, List.setIfInBounds_toArray, List.set_cons_zero, List.set_cons_succ]
        refine wpAnyH_ready (rs := [9]) (by kernel_rfl) (by simp) ?_
        refine AllReadyH.cons (o := { dst := none, op := Go.Op.store 25 (Go.Operand.tmp 33) (Go.Operand.tmp 31), type := 0, pos := "l09_documents.go:74", after := #[{ on := 8, ground := Go.Ground.data }, { on := 6, ground := Go.Ground.data }, { on := 6, ground := Go.Ground.chain }, { on := 0, ground := Go.Ground.phase }, { on := 1, ground := Go.Ground.phase }, { on := 2, ground := Go.Ground.phase }, { on := 3, ground := Go.Ground.phase }, { on := 4, ground := Go.Ground.phase }, { on := 5, ground := Go.Ground.phase }, { on := 6, ground := Go.Ground.phase }], guard := none }) rfl (fun K hK => ?_) AllReadyH.nil
        go_simp
        clear hHeld
        refine hK.out _ _ hS8 (fun hHeld => ?_)
        clear hK K
        try simp only [Act.put, List.setIfInBounds_toArray, List.set_cons_zero, List.set_cons_succ]
        refine wpAnyH_done (by kernel_rfl) ?_ _
        go_wp2_with fail
        exact ⟨⟨j + 1, _, _, _, _, _, _, by go_num, by omega, HE7⟩, by simp [intOf]; omega⟩
      · go_simp
        refine Calls.mono HCALL.out ?_
        rintro e w1 ⟨u1, K1, DL1, LL1, MM1, rfl, hs1, hf1, hk1, hl1⟩
        dsimp only
        obtain ⟨R1, R2, hSa, hSb, HO1, HZ1, HAP⟩ := HAFT.out w1 u1 K1 DL1 LL1 MM1 hs1 hf1 hk1 hl1
        clear hs1 hf1 hk1 hl1
        clear hHeld
        refine hK.out _ _ hSa (fun hHeld => ?_)
        clear hK K
        try simp only [Act.put, List.setIfInBounds_toArray, List.set_cons_zero, List.set_cons_succ]
        refine wpAnyH_ready (rs := [2, 5]) (by kernel_rfl) (by simp) ?_
        refine AllReadyH.cons (o := { dst := some 27, op := Go.Op.load 25 (Go.Operand.tmp 26), type := 25, pos := "l09_documents.go:74", after := #[{ on := 1, ground := Go.Ground.data }], guard := none }) rfl (fun K hK => ?_) (AllReadyH.cons (o := { dst := some 30, op := Go.Op.buildSlice 25 1 #[(0, Go.Operand.tmp 29)], type := 25, pos := "l09_documents.go:74", after := #[{ on := 4, ground := Go.Ground.data }], guard := none }) rfl (fun K hK => ?_) AllReadyH.nil)
        · go_simp
          clear hHeld
          refine hK.out _ _ hSa (fun hHeld => ?_)
          clear hK K
          try simp only [Act.put, List.setIfInBounds_toArray, List.set_cons_zero, List.set_cons_succ]
          refine wpAnyH_ready (rs := [5]) (by kernel_rfl) (by simp) ?_
          refine AllReadyH.cons (o := { dst := some 30, op := Go.Op.buildSlice 25 1 #[(0, Go.Operand.tmp 29)], type := 25, pos := "l09_documents.go:74", after := #[{ on := 4, ground := Go.Ground.data }], guard := none }) rfl (fun K hK => ?_) AllReadyH.nil
          go_simp
          clear hHeld
          refine hK.out _ _ hSb (fun hHeld => ?_)
          clear hK K
          try simp only [Act.put, List.setIfInBounds_toArray, List.set_cons_zero, List.set_cons_succ]
          refine wpAnyH_ready (rs := [6]) (by kernel_rfl) (by simp) ?_
          refine AllReadyH.cons (o := { dst := some 31, op := Go.Op.call { callee := Go.Callee.builtin Go.Builtin.append, args := #[Go.Operand.tmp 27, Go.Operand.tmp 30], argTypes := #[25, 25] }, type := 25, pos := "l09_documents.go:74", after := #[{ on := 2, ground := Go.Ground.data }, { on := 5, ground := Go.Ground.data }, { on := 4, ground := Go.Ground.chain }], guard := none }) rfl (fun K hK => ?_) AllReadyH.nil
          (refine step_append_lies _ rfl (.tmp 27) (.tmp 30) 25 rfl (w.heap.size + 1) 3 i3 _ 1 8 Try.underlying25 hi3 hz0 hz1 hz2 rfl (by decide) _ j _ (by simp [Act.eval, Act.put]) HO1.out ⟨w1.heap.size, 0, none⟩ 1 1 [.int .i64 (mm : Nat)] (by simp [Act.eval, Act.put]) rfl (World.news_of_block (cs := #[.int .i64 (mm : Nat)]) (blk_alloc_new _ _)) (by intro y hy; simp at hy; subst hy; rfl) (by decide) (by unfold maxLen; omega) (by omega) HZ1.out _ rfl ?_; intro g7 cap7 w7 hown7 hgr7 hat7 hlt7; obtain ⟨hS7, n7, f7, hS8, HE7⟩ := HAP.out g7 cap7 w7 hown7 hgr7 (by simpa using hat7); clear hown7 hgr7 hat7 hlt7)
          clear hHeld
          refine hK.out _ _ hS7 (fun hHeld => ?_)
          clear hK K
          try simp only [Act.put, List.setIfInBounds_toArray, List.set_cons_zero, List.set_cons_succ]
          refine wpAnyH_take (i := 7) (oi := { dst := some 32, op := Go.Op.fieldAddr 73 (Go.Operand.tmp 4) 2, type := 0, pos := "l09_documents.go:74", after := #[{ on := 0, ground := Go.Ground.phase }, { on := 1, ground := Go.Ground.phase }, { on := 2, ground := Go.Ground.phase }, { on := 3, ground := Go.Ground.phase }, { on := 4, ground := Go.Ground.phase }, { on := 5, ground := Go.Ground.phase }, { on := 6, ground := Go.Ground.phase }], guard := none }) (v := ?v6) rfl (by kernel_rfl) (by kernel_rfl) (by kernel_rfl) (fun _ _ _ h => h) (Or.inl ⟨by rfl, ?h6⟩) hHeld ?r6
          case h6 => (intro w hSw; (try dsimp only at hSw); go_simp; try with_reducible rfl)
          try simp only [Act.put, List.setIfInBounds_toArray, List.set_cons_zero, List.set_cons_succ]
          refine wpAnyH_take (i := 8) (oi := { dst := some 33, op := Go.Op.fieldAddr 27 (Go.Operand.tmp 32) 1, type := 0, pos := "l09_documents.go:74", after := #[{ on := 7, ground := Go.Ground.data }, { on := 0, ground := Go.Ground.phase }, { on := 1, ground := Go.Ground.phase }, { on := 2, ground := Go.Ground.phase }, { on := 3, ground := Go.Ground.phase }, { on := 4, ground := Go.Ground.phase }, { on := 5, ground := Go.Ground.phase }, { on := 6, ground := Go.Ground.phase }], guard := none }) (v := ?v7) rfl (by kernel_rfl) (by kernel_rfl) (by kernel_rfl) (fun _ _ _ h => h) (Or.inl ⟨by rfl, ?h7⟩) hHeld ?r7
          case h7 => (intro w hSw; (try dsimp only at hSw); go_simp; try with_reducible rfl)
          try simp only [Act.put, List.setIfInBounds_toArray, List.set_cons_zero, List.set_cons_succ]
          refine wpAnyH_ready (rs := [9]) (by kernel_rfl) (by simp) ?_
          refine AllReadyH.cons (o := { dst := none, op := Go.Op.store 25 (Go.Operand.tmp 33) (Go.Operand.tmp 31), type := 0, pos := "l09_documents.go:74", after := #[{ on := 8, ground := Go.Ground.data }, { on := 6, ground := Go.Ground.data }, { on := 6, ground := Go.Ground.chain }, { on := 0, ground := Go.Ground.phase }, { on := 1, ground := Go.Ground.phase }, { on := 2, ground := Go.Ground.phase }, { on := 3, ground := Go.Ground.phase }, { on := 4, ground := Go.Ground.phase }, { on := 5, ground := Go.Ground.phase }, { on := 6, ground := Go.Ground.phase }], guard := none }) rfl (fun K hK => ?_) AllReadyH.nil
          go_simp
          clear hHeld
          refine hK.out _ _ hS8 (fun hHeld => ?_)
          clear hK K
          try simp only [Act.put, List.setIfInBounds_toArray, List.set_cons_zero, List.set_cons_succ]
          refine wpAnyH_done (by kernel_rfl) ?_ _
          go_wp2_with fail
          exact ⟨⟨j + 1, _, _, _, _, _, _, by go_num, by omega, HE7⟩, by simp [intOf]; omega⟩
        · go_simp
          clear hHeld
          refine hK.out _ _ hSb (fun hHeld => ?_)
          clear hK K
          try simp only [Act.put, List.setIfInBounds_toArray, List.set_cons_zero, List.set_cons_succ]
          refine wpAnyH_ready (rs := [2]) (by kernel_rfl) (by simp) ?_
          refine AllReadyH.cons (o := { dst := some 27, op := Go.Op.load 25 (Go.Operand.tmp 26), type := 25, pos := "l09_documents.go:74", after := #[{ on := 1, ground := Go.Ground.data }], guard := none }) rfl (fun K hK => ?_) AllReadyH.nil
          go_simp
          clear hHeld
          refine hK.out _ _ hSb (fun hHeld => ?_)
          clear hK K
          try simp only [Act.put, List.setIfInBounds_toArray, List.set_cons_zero, List.set_cons_succ]
          refine wpAnyH_ready (rs := [6]) (by kernel_rfl) (by simp) ?_
          refine AllReadyH.cons (o := { dst := some 31, op := Go.Op.call { callee := Go.Callee.builtin Go.Builtin.append, args := #[Go.Operand.tmp 27, Go.Operand.tmp 30], argTypes := #[25, 25] }, type := 25, pos := "l09_documents.go:74", after := #[{ on := 2, ground := Go.Ground.data }, { on := 5, ground := Go.Ground.data }, { on := 4, ground := Go.Ground.chain }], guard := none }) rfl (fun K hK => ?_) AllReadyH.nil
          (refine step_append_lies _ rfl (.tmp 27) (.tmp 30) 25 rfl (w.heap.size + 1) 3 i3 _ 1 8 Try.underlying25 hi3 hz0 hz1 hz2 rfl (by decide) _ j _ (by simp [Act.eval, Act.put]) HO1.out ⟨w1.heap.size, 0, none⟩ 1 1 [.int .i64 (mm : Nat)] (by simp [Act.eval, Act.put]) rfl (World.news_of_block (cs := #[.int .i64 (mm : Nat)]) (blk_alloc_new _ _)) (by intro y hy; simp at hy; subst hy; rfl) (by decide) (by unfold maxLen; omega) (by omega) HZ1.out _ rfl ?_; intro g7 cap7 w7 hown7 hgr7 hat7 hlt7; obtain ⟨hS7, n7, f7, hS8, HE7⟩ := HAP.out g7 cap7 w7 hown7 hgr7 (by simpa using hat7); clear hown7 hgr7 hat7 hlt7)
          clear hHeld
          refine hK.out _ _ hS7 (fun hHeld => ?_)
          clear hK K
          try simp only [Act.put, List.setIfInBounds_toArray, List.set_cons_zero, List.set_cons_succ]
          refine wpAnyH_take (i := 7) (oi := { dst := some 32, op := Go.Op.fieldAddr 73 (Go.Operand.tmp 4) 2, type := 0, pos := "l09_documents.go:74", after := #[{ on := 0, ground := Go.Ground.phase }, { on := 1, ground := Go.Ground.phase }, { on := 2, ground := Go.Ground.phase }, { on := 3, ground := Go.Ground.phase }, { on := 4, ground := Go.Ground.phase }, { on := 5, ground := Go.Ground.phase }, { on := 6, ground := Go.Ground.phase }], guard := none }) (v := ?v8) rfl (by kernel_rfl) (by kernel_rfl) (by kernel_rfl) (fun _ _ _ h => h) (Or.inl ⟨by rfl, ?h8⟩) hHeld ?r8
          case h8 => (intro w hSw; (try dsimp only at hSw); go_simp; try with_reducible rfl)
          try simp only [Act.put, List.setIfInBounds_toArray, List.set_cons_zero, List.set_cons_succ]
          refine wpAnyH_take (i := 8) (oi := { dst := some 33, op := Go.Op.fieldAddr 27 (Go.Operand.tmp 32) 1, type := 0, pos := "l09_documents.go:74", after := #[{ on := 7, ground := Go.Ground.data }, { on := 0, ground := Go.Ground.phase }, { on := 1, ground := Go.Ground.phase }, { on := 2, ground := Go.Ground.phase }, { on := 3, ground := Go.Ground.phase }, { on := 4, ground := Go.Ground.phase }, { on := 5, ground := Go.Ground.phase }, { on := 6, ground := Go.Ground.phase }], guard := none }) (v := ?v9) rfl (by kernel_rfl) (by kernel_rfl) (by kernel_rfl) (fun _ _ _ h => h) (Or.inl ⟨by rfl, ?h9⟩) hHeld ?r9
          case h9 => (intro w hSw; (try dsimp only at hSw); go_simp; try with_reducible rfl)
          try simp only [Act.put, List.setIfInBounds_toArray, List.set_cons_zero, List.set_cons_succ]
          refine wpAnyH_ready (rs := [9]) (by kernel_rfl) (by simp) ?_
          refine AllReadyH.cons (o := { dst := none, op := Go.Op.store 25 (Go.Operand.tmp 33) (Go.Operand.tmp 31), type := 0, pos := "l09_documents.go:74", after := #[{ on := 8, ground := Go.Ground.data }, { on := 6, ground := Go.Ground.data }, { on := 6, ground := Go.Ground.chain }, { on := 0, ground := Go.Ground.phase }, { on := 1, ground := Go.Ground.phase }, { on := 2, ground := Go.Ground.phase }, { on := 3, ground := Go.Ground.phase }, { on := 4, ground := Go.Ground.phase }, { on := 5, ground := Go.Ground.phase }, { on := 6, ground := Go.Ground.phase }], guard := none }) rfl (fun K hK => ?_) AllReadyH.nil
          go_simp
          clear hHeld
          refine hK.out _ _ hS8 (fun hHeld => ?_)
          clear hK K
          try simp only [Act.put, List.setIfInBounds_toArray, List.set_cons_zero, List.set_cons_succ]
          refine wpAnyH_done (by kernel_rfl) ?_ _
          go_wp2_with fail
          exact ⟨⟨j + 1, _, _, _, _, _, _, by go_num, by omega, HE7⟩, by simp [intOf]; omega⟩
    · obtain rfl : j = k.length := by omega
      obtain ⟨y1, y2, y3, y4, y5, y6⟩ := HJ.out
      rw [pk_putTs] at y2 y3
      have T0 : wr.cell? ⟨gs, 2, none⟩ = some u := y2.box.cell 2 (by simp)
      have T1 : wr.cell? ⟨gs, 3, none⟩ = some r := y2.box.cell 3 (by simp)
      have R0 : wr.cell? ⟨w.heap.size, 0, none⟩ = some (.slice none 0 0) := y1.cell 0 (by simp)
      have R1 : wr.cell? ⟨w.heap.size, 1, none⟩ = some (.slice none 0 0) := y1.cell 1 (by simp)
      have F0 := y1.frozen 0
      have F1 := y1.frozen 1
      obtain ⟨ua, up, rfl, _⟩ := y2.dn.form
      obtain ⟨ra, rp, rfl, _⟩ := own_ne y3
      have hk2 : (putTs k []).2.length = k.length := by
        rw [← pk_putTs]
        exact pk_num k _ (Nat.le_refl _) []
      generalize hN : (putTs k []).1.length = N at *
      obtain ⟨o0, o1⟩ := HRS.out wr y1 (.slice ua N up) (.slice ra k.length rp)
      have HE := (show Hid (Below w.heap.size w ((wr.setCell ⟨w.heap.size, 0, none⟩ (.slice ua N up)).setCell ⟨w.heap.size, 1, none⟩ (.slice ra k.length rp)) ∧ DgR w.heap.size ((wr.setCell ⟨w.heap.size, 0, none⟩ (.slice ua N up)).setCell ⟨w.heap.size, 1, none⟩ (.slice ra k.length rp)) (putTs k []).1 (putTs k []).2 (.slice ua N up) (.slice ra k.length rp)) from (by
        have hblk : ∀ p, p ≠ w.heap.size → ((wr.setCell ⟨w.heap.size, 0, none⟩ (.slice ua N up)).setCell ⟨w.heap.size, 1, none⟩ (.slice ra k.length rp)).heap[p]? = wr.heap[p]? := fun p hp => (blk_setCell_other _ _ _ _ hp).trans (blk_setCell_other _ _ _ _ hp)
        refine ⟨(y4.setCell (p := ⟨w.heap.size, 0, none⟩) (Nat.le_refl _) _).setCell (p := ⟨w.heap.size, 1, none⟩) (Nat.le_refl _) _, K, y2.dn.keep (by simp) (fun q hq _ => hblk q (fun e => ?_)), ?_, fun q hq => ⟨(y5 q (.inr hq)).1, (y5 q (.inr hq)).2.1⟩⟩
        · subst e
          rcases hq with hq | hq
          · exact (y5 _ (.inl rfl)).1 hq
          · exact (y5 _ (.inl rfl)).2.1 hq
        · rw [hk2]
          have h4 := own_mono y3 (show w.heap.size ≤ w.heap.size + 1 by omega)
          exact own_keep1 h4 (fun q hq => hblk q (by have := World.ownsRow.lt y3 q hq; omega))))
      clear y1 y2 y3 y4 y5 y6 HJ HC HA HR HS HRS hk2
      go_wp2_with fail
      refine bodyPost_ret (v := .tuple #[.agg #[.slice ua N up, .slice ra k.length rp], .int .i64 0]) (by simp [results, Try.results9, go_sem, o0, o1]) rfl ?_
      exact ⟨.slice ua N up, .slice ra k.length rp, by rw [HF.out.1], HE.out.1, by rw [HF.out.2]; exact HE.out.2⟩
end Go.Proofs.Ytofobmdljelmgaa
