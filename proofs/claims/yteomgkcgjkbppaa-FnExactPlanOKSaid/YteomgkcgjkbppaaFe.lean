import Derived.Test.YteomgkcgjkbppaaFd
import Derived.Test.YteomgkcgjkbppaaFt
import Derived.BigQuiet
import Derived.Laws.EntriesVeiled
/-! The program: haveAll. -/
namespace Go.Proofs.Yteomgkcgjkbppaa
open Go.RowKit Go.Deep Go.Maps Go.WideMaps Go.ChangeMaps Go.Lib
set_option linter.unusedVariables false
set_option maxRecDepth 100000
set_option linter.unusedSimpArgs false

theorem Mn.look_ok {w : World} {b : Nat} {ks : List Value} (h : Mn w b 9 ks) {s : ByteArray} (hs : s.size ≤ maxLen) {B : Bool} (hB : B = true ↔ Value.string s ∈ ks) :
    ∃ c : Int, ∀ w' : World, w'.heap[b]? = w.heap[b]? → (Instr.lookup 65 (.map (some b)) (.string s) true).run Try.prog w' = .ok (.tuple #[.int .i64 c, .bool B]) w' := by
  obtain ⟨D, ⟨es, clock, d0, d1⟩, d2, d3, d4, d6, d7⟩ := h
  have hw0 : (Lit.int .i64 0).wf = true := by decide
  obtain ⟨l, hl⟩ : ∃ l, keyOf Try.prog 9 (.string s) = some l := ⟨_, keyOf_string_mk (P := Try.prog) Try.underlying9 hs⟩
  have e : Maps.has D l = B := by
    rw [Bool.eq_iff_iff, hB]
    exact d6 _ _ hl
  have key : ∀ w' : World, w'.heap[b]? = w.heap[b]? → ∃ c : Int, D.atKey l (.lit (.int .i64 0)) = .lit (.int .i64 c) ∧ (Instr.lookup 65 (.map (some b)) (.string s) true).run Try.prog w' = .ok (.tuple #[.int .i64 c, .bool B]) w' := by
    intro w' hw
    have d1' : w'.ownsMap Try.prog 9 (plainElem Try.prog 3) b ks.length D := ⟨es, clock, hw.trans d0, d1⟩
    obtain ⟨v, ps, hr, hv⟩ := d1'.look_ok keyed9 Try.underlying65 (zero3c w') (plainElem_int Try.underlying3 hw0) hl
    obtain ⟨c, rfl, hc, hwc⟩ := plainElem_int_inv Try.underlying3 hv
    simp only [Prod.mk.injEq] at hc
    exact ⟨c, hc.1, by rw [hr, e]⟩
  obtain ⟨c, hc, _⟩ := key w rfl
  refine ⟨c, fun w' hw => ?_⟩
  obtain ⟨c', hc', hr⟩ := key w' hw
  rw [hc] at hc'
  have : c' = c := by simpa using hc'.symm
  rw [hr, this]
theorem Mn.look {w : World} {b : Nat} {ks : List Value} (h : Mn w b 9 ks) {s : ByteArray} (hs : s.size ≤ maxLen) {n : Nat} (hn : ks[n]? = some (.string s)) (w' : World) (hw : w'.heap[b]? = w.heap[b]?) :
    (Instr.lookup 65 (.map (some b)) (.string s) false).run Try.prog w' = .ok (.int .i64 (n : Nat)) w' := by
  obtain ⟨D, ⟨es, clock, d0, d1⟩, d2, d3, d4, d6, d7⟩ := h
  have d1' : w'.ownsMap Try.prog 9 (plainElem Try.prog 3) b ks.length D := ⟨es, clock, hw.trans d0, d1⟩
  obtain ⟨l, hl⟩ : ∃ l, keyOf Try.prog 9 (.string s) = some l := ⟨_, keyOf_string_mk (P := Try.prog) Try.underlying9 hs⟩
  obtain ⟨c, hr, hat, hwc⟩ := d1'.lookup_int keyed9 Try.underlying65 Try.underlying3 (zero3c w') hl
  have h1 := d7 n _ _ (.lit (.int .i64 0)) hn hl
  have hc : c = ((n : Nat) : Int) := by
    have h2 := hat
    rw [h1] at h2
    simpa using h2.symm
  rw [hr, hc]
theorem look_mem {bl : List (ByteArray × Tr)} {s : ByteArray} : (look bl s).isSome = true ↔ Value.string s ∈ bks bl := by
  unfold bks
  induction bl with
  | nil => simp [look]
  | cons b r ih =>
    rw [look, List.map_cons, List.mem_cons]
    split
    · rename_i h
      rw [eqS_iff] at h
      simp [h]
    · rename_i h
      rw [ih]
      constructor
      · exact .inr
      · rintro (e | e)
        · injection e with e
          exact absurd (eqS_iff.2 e.symm) h
        · exact e
/-- Bindings that are known: a box with the map of their numbers, and the row of binds. -/
structure KS (w : World) (bl : List (ByteArray × Tr)) (gb mb : Nat) (a : Option Addr) (cap : Nat) : Prop where
  bx : Box w gb 67 [.map (some mb), .slice a bl.length cap]
  mn : Mn w mb 9 (bks bl)
  rd : BRd w bl (.slice a bl.length cap)
theorem KS.still {w w' : World} {bl : List (ByteArray × Tr)} {gb mb : Nat} {a : Option Addr} {cap : Nat} (h : KS w bl gb mb a cap) (hb : Below w.heap.size w w') : KS w' bl gb mb a cap :=
  ⟨h.bx.still hb, h.mn.keep (hb.block _ h.mn.lt), h.rd.still hb⟩
theorem bel_drewN {B : Nat} {a w : World} (h : Below B a w) (n : Nat) : Below B a (w.drewN n) := h.trans ⟨rfl, rfl, rfl, Nat.le_refl _, fun _ _ => rfl⟩
set_option maxHeartbeats 1600000 in
theorem allHave82 (bl : List (ByteArray × Tr)) (gb : Nat) (k : List Tr) (a1 : Option Addr) (cap1 b1 off1 : Nat) (sv : Nat → Value) (w : World) (hc : k.length ≤ 9223372036854775807)
    (ha : 0 < k.length → a1 = some ⟨b1, off1, none⟩)
    (hcell : ∀ i (hi : i < k.length), w.cell? ⟨b1, off1 + i * 4, none⟩ = some (.string k[i].name) ∧ w.cell? ⟨b1, off1 + i * 4 + 1, none⟩ = some (.string k[i].text) ∧ w.cell? ⟨b1, off1 + i * 4 + 2, none⟩ = some (.bool k[i].leaf) ∧ w.cell? ⟨b1, off1 + i * 4 + 3, none⟩ = some (sv i))
    (hsv : ∀ i (hi : i < k.length), ∃ x y z, sv i = .slice x y z)
    (ih : ∀ i (hi : i < k.length) (wq : World), Below w.heap.size w wq → Calls Try.prog 53 #[.pointer (some ⟨gb, 0, none⟩), k[i].val (sv i)] wq fun e w' => e = .returned (.bool (hvT bl k[i])) ∧ Below wq.heap.size wq w') :
    Calls Try.prog 82 #[.slice a1 k.length cap1, .func (.func 53) #[.pointer (some ⟨gb, 0, none⟩)] #[]] w fun e w' => e = .returned (.bool (k.all (hvT bl))) ∧ Below w.heap.size w w' := by
  have HI := (show Hid _ from ih); clear ih
  have HD := (show Hid _ from (⟨ha, hcell, hsv⟩ : _ ∧ _ ∧ _)); clear ha hcell hsv
  have HAL := (show Hid (∀ j (hj : j < k.length), hvT bl k[j] = false → k.all (hvT bl) = false) from fun j hj h => by
    rw [List.all_eq_false]
    exact ⟨k[j], List.getElem_mem hj, by rw [h]; simp⟩)
  have HAT := (show Hid ((∀ j (hj : j < k.length), hvT bl k[j] = true) → k.all (hvT bl) = true) from fun h => by
    rw [List.all_eq_true]
    intro x hx
    obtain ⟨i, hi, rfl⟩ := List.mem_iff_getElem.1 hx
    exact h i hi)
  generalize k.all (hvT bl) = R at *
  go_enter Try.func82, Try.ntmps82
  go_wp2_with fail
  go_loopw [9] (fun i wr => ∃ j : Nat, i = .int .i64 j ∧ j ≤ k.length ∧ Hid (Below w.heap.size w wr) ∧ Hid (∀ i (hi : i < k.length), i < j → hvT bl k[i] = true)) (fun i _ => k.length - (intOf i).toNat)
  case atStart => exact ⟨0, rfl, Nat.zero_le _, Below.refl _ _, fun i _ h => absurd h (Nat.not_lt_zero _)⟩
  case round =>
    obtain ⟨j, rfl, hj, HB, HJ⟩ := hrel
    by_cases hlt : j < k.length
    · have q1 : (j : Int) < (k.length : Int) := by omega
      have q0 : (0 : Int) ≤ (j : Int) := by omega
      obtain rfl := HD.out.1 (by omega)
      obtain ⟨c0, c1, c2, c3⟩ := HD.out.2.1 j hlt
      obtain ⟨x1, x2, x3, e3⟩ := HD.out.2.2 j hlt
      have hbel := HB.out
      rw [← hbel.cell (lt_of_cell c0)] at c0
      rw [← hbel.cell (lt_of_cell c1)] at c1
      rw [← hbel.cell (lt_of_cell c2)] at c2
      rw [← hbel.cell (lt_of_cell c3)] at c3
      have HCL := (show Hid _ from HI.out j hlt (wr.alloc (.cells #[.string k[j].name, .string k[j].text, .bool k[j].leaf, .slice x1 x2 x3] 31)) (bel_trans hbel (bel_alloc _ _)))
      rw [e3] at c3 HCL
      simp only [Tr.val] at HCL
      have HB2 := (show Hid (Below w.heap.size w (wr.alloc (.cells #[.string k[j].name, .string k[j].text, .bool k[j].leaf, .slice x1 x2 x3] 31))) from bel_trans hbel (bel_alloc _ _))
      have HNX := (show Hid (hvT bl k[j] = true → ∀ i (hi : i < k.length), i < j + 1 → hvT bl k[i] = true) from fun h i hi hij => by
        by_cases e : i = j
        · subst e; exact h
        · exact HJ.out i hi (by omega))
      have HFX := (show Hid (hvT bl k[j] = false → R = false) from HAL.out j hlt)
      clear hbel e3 HJ HB
      generalize hvT bl k[j] = r at *
      generalize k[j].name = y0 at *
      generalize k[j].text = y1 at *
      generalize k[j].leaf = y2 at *
      go_wp2_with fail
      refine Calls.mono HCL.out ?_
      rintro e w1 ⟨rfl, hb1⟩
      have HB3 := (show Hid (Below w.heap.size w w1) from bel_trans HB2.out hb1)
      clear hb1 HB2 HCL c0 c1 c2 c3
      cases r
      · have HF := (show Hid _ from HFX.out rfl)
        clear HNX HFX
        go_wp2_with fail
        go_ret
        exact ⟨by rw [HF.out]; rfl, HB3.out⟩
      · have HF := (show Hid _ from HNX.out rfl)
        clear HNX HFX
        go_wp2_with fail
        exact ⟨⟨j + 1, by go_num, by omega, HB3, HF⟩, by simp [intOf]; omega⟩
    · have q1 : ¬ ((j : Int) < (k.length : Int)) := by omega
      have HF := (show Hid (R = true) from HAT.out (fun i hi => HJ.out i hi (by omega)))
      go_wp2_with fail
      go_ret
      exact ⟨by rw [HF.out]; rfl, HB.out⟩
set_option maxHeartbeats 1600000 in
theorem have53 (bl : List (ByteArray × Tr)) (gb mb : Nat) (a : Option Addr) (cap : Nat) (p : Tr) : ∀ (v : Value) (w : World), KS w bl gb mb a cap → Lies w (fun _ => True) p v →
    Calls Try.prog 53 #[.pointer (some ⟨gb, 0, none⟩), p.val v] w fun e w' => e = .returned (.bool (hvT bl p)) ∧ Below w.heap.size w w' := by
  refine Tr.ind (P := fun p => ∀ (v : Value) (w : World), KS w bl gb mb a cap → Lies w (fun _ => True) p v → Calls Try.prog 53 #[.pointer (some ⟨gb, 0, none⟩), p.val v] w fun e w' => e = .returned (.bool (hvT bl p)) ∧ Below w.heap.size w w') ?_ p
  intro n x lf k ih v w hks hl
  rw [hvT_mk]
  obtain ⟨a1, cap1, b1, off1, sv, rfl, hn, hx, hc, hm, ha, hcell, hk⟩ := hl.out
  dsimp only at hn hx hc hm ha hcell hk
  have hb1 := bel_alloc w (.cells #[.string n, .string x, .bool lf, .slice a1 k.length cap1] 31)
  have HV := (show Hid _ from var72 ⟨n, x, lf, k⟩ (.slice a1 k.length cap1) (w.alloc (.cells #[.string n, .string x, .bool lf, .slice a1 k.length cap1] 31)) rfl)
  have HX1 := (show Hid (Box (w.alloc (.cells #[.string n, .string x, .bool lf, .slice a1 k.length cap1] 31)) w.heap.size 31 [.string n, .string x, .bool lf, .slice a1 k.length cap1]) from Box.new w 31 _)
  have HB1 := (show Hid _ from hb1)
  simp only [Tr.val] at HV ⊢
  cases hvr : vrB n lf
  · rw [hvr] at HV
    rw [if_neg (by simp)]
    have HAL := (show Hid (∀ wq : World, Below w.heap.size w wq → Calls Try.prog 82 #[.slice a1 k.length cap1, .func (.func 53) #[.pointer (some ⟨gb, 0, none⟩)] #[]] wq fun e w' => e = .returned (.bool (k.all (hvT bl))) ∧ Below wq.heap.size wq w') from fun wq hb => by
      have mv : ∀ {b o : Nat} {v : Value}, w.cell? ⟨b, o, none⟩ = some v → wq.cell? ⟨b, o, none⟩ = some v := fun h => (hb.cell (lt_of_cell h)).trans h
      refine allHave82 bl gb k a1 cap1 b1 off1 sv wq (by unfold maxLen at hm; omega) (fun h => (ha h).1) (fun i hi => ?_) (fun i hi => (hk i hi).form) (fun i hi w2 hb2 => ih i hi (sv i) w2 (hks.still (bel_trans hb hb2)) ((hk i hi).still (bel_trans hb hb2)))
      obtain ⟨c0, c1, c2, c3⟩ := hcell i hi
      exact ⟨mv c0, mv c1, mv c2, mv c3⟩)
    clear hks hl hcell hk ha ih hb1 hvr
    generalize k.all (hvT bl) = R at *
    go_enter Try.func53, Try.ntmps53
    go_wp2_with fail
    refine Calls.mono HV.out ?_
    rintro e w1 ⟨rfl, hb1⟩
    have bx1 := HX1.out.still hb1
    have A3 : w1.cell? ⟨w.heap.size, 3, none⟩ = some (.slice a1 k.length cap1) := bx1.cell 3 (by simp)
    have HW1 := (show Hid (Below w.heap.size w w1) from bel_trans HB1.out hb1)
    clear bx1 hb1 HV
    have HCL := (show Hid _ from HAL.out w1 HW1.out)
    clear HAL
    go_wp2_with fail
    refine Calls.mono HCL.out ?_
    rintro e w2 ⟨rfl, hb2⟩
    have HE := (show Hid _ from bel_trans HW1.out hb2)
    clear hb2 HCL
    go_wp2_with fail
    go_ret
    exact ⟨rfl, HE.out⟩
  · rw [hvr] at HV
    rw [if_pos rfl]
    have HKS := (show Hid (KS w bl gb mb a cap) from hks)
    have HLM := (show Hid ((look bl x).isSome = true ↔ Value.string x ∈ bks bl) from look_mem)
    clear hks hl hcell hk ha ih hb1 hvr
    generalize (look bl x).isSome = R at *
    go_enter Try.func53, Try.ntmps53
    go_wp2_with fail
    refine Calls.mono HV.out ?_
    rintro e w1 ⟨rfl, hb1⟩
    have bx1 := HX1.out.still hb1
    have A1 : w1.cell? ⟨w.heap.size, 1, none⟩ = some (.string x) := bx1.cell 1 (by simp)
    have HW1 := (show Hid (Below w.heap.size w w1) from bel_trans HB1.out hb1)
    have hks1 := HKS.out.still HW1.out
    have G0 : w1.cell? ⟨gb, 0, none⟩ = some (.map (some mb)) := hks1.bx.cell 0 (by simp)
    obtain ⟨c, hlk0⟩ := hks1.mn.look_ok hx HLM.out
    have hlk : ∀ m : Nat, (Instr.lookup 65 (.map (some mb)) (.string x) true).run Try.prog (w1.drewN m) = .ok (.tuple #[.int .i64 c, .bool R]) (w1.drewN m) := fun m => hlk0 _ rfl
    clear hlk0
    clear bx1 hb1 HV hks1
    go_wp2_with fail
    go_quiet (fail)
    go_wp2_with fail
    go_ret
    exact ⟨rfl, bel_drewN HW1.out _⟩
end Go.Proofs.Yteomgkcgjkbppaa
