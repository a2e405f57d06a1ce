import Derived.Test.YtledclkmeikgdaaXWalk
import Derived.Defers
import Derived.Recover
import Derived.KernelRfl
namespace Go.Proofs.Ytledclkmeikgdaa.T
open Go.RowKit Go.Deep
set_option linter.unusedVariables false
set_option linter.unusedSimpArgs false

theorem assert_fault (c a : Int) (w : World) : (Instr.typeAssert (.iface 149 (.agg #[.int .i64 c, .int .i64 a])) 20 149 true).run Try.prog w = .ok (.tuple #[.agg #[.int .i64 c, .int .i64 a], .bool true]) w := by kernel_rfl

theorem field_fault (c a : Int) (w : World) : (Instr.field 149 (.agg #[.int .i64 c, .int .i64 a]) 0).run Try.prog w = .ok (.int .i64 c) w := by kernel_rfl

set_option maxHeartbeats 400000 in
theorem faultIn_any (c a : Int) (w : World) :
    Calls Try.prog 119 #[.iface 149 (.agg #[.int .i64 c, .int .i64 a])] w fun e w' => e = .returned (.agg #[.int .i64 c, .int .i64 a]) ∧ Below w.heap.size w w' := by
  have hta := assert_fault c a
  go_enter Try.func119, Try.ntmps119
  go_wp2_with fail
  exact bodyPost_ret (v := .agg #[.int .i64 c, .int .i64 a]) (by simp [results, Try.results119, go_sem]) rfl ⟨rfl, (bel_alloc _ _).alloc (by simp) _⟩

set_option maxHeartbeats 400000 in
theorem catch_panicking (p0 p1 p2 : Nat) (c a : Int) (older : List PanicEntry) (w : World) (u0 u1 u2 : Value)
    (h0 : w.cell? ⟨p0, 0, none⟩ = some u0) (h1 : w.cell? ⟨p1, 0, none⟩ = some u1) (h2 : w.cell? ⟨p2, 0, none⟩ = some u2)
    (z0 : w.frozen? ⟨p0, 0, none⟩ = false) (z1 : w.frozen? ⟨p1, 0, none⟩ = false) (z2 : w.frozen? ⟨p2, 0, none⟩ = false) (n01 : p0 ≠ p1) (n02 : p0 ≠ p2) (n12 : p1 ≠ p2) :
    CallsD Try.prog 118 #[.pointer (some ⟨p0, 0, none⟩), .pointer (some ⟨p1, 0, none⟩), .pointer (some ⟨p2, 0, none⟩)] (.panicking ({ v := .iface 149 (.agg #[.int .i64 c, .int .i64 a]), recovered := false } :: older)) w fun e u' w' =>
      e = .returned (.tuple #[]) ∧ u' = .panicking ({ v := .iface 149 (.agg #[.int .i64 c, .int .i64 a]), recovered := true } :: older) ∧
        ∃ w1, Below w.heap.size w w1 ∧ w' = ((w1.setCell ⟨p0, 0, none⟩ (.int .i64 0)).setCell ⟨p1, 0, none⟩ (.int .i64 0)).setCell ⟨p2, 0, none⟩ (.int .i64 c) := by
  have q0 := lt_of_cell h0
  have q1 := lt_of_cell h1
  have q2 := lt_of_cell h2
  refine callsD_of_wpS Try.func118 rfl fun c₀ cs hu => ?_
  apply wpS_seq
  apply wpS_region
  simp [wpOpsS, go_sem, recoverD, hu, Try.ntmps118, Exit.thenS]
  refine wpS_of_wp ?_
  go_wp2_with fail
  refine Calls.mono (faultIn_any c a w) ?_
  rintro e w1 ⟨rfl, hb1⟩
  rw [← hb1.cell (lt_of_cell h0)] at h0
  rw [← hb1.cell (lt_of_cell h1)] at h1
  rw [← hb1.cell (lt_of_cell h2)] at h2
  rw [← hb1.frozen (by assumption)] at z0
  rw [← hb1.frozen (by assumption)] at z1
  rw [← hb1.frozen (by assumption)] at z2
  have hfd := field_fault c a
  go_wp2_with fail
  exact ⟨rfl, _, rfl, _, by simp [results, Try.results118], rfl, rfl, w1, hb1, rfl⟩

set_option maxHeartbeats 400000 in
theorem catch_idle (p0 p1 p2 : Nat) (w : World) :
    CallsD Try.prog 118 #[.pointer (some ⟨p0, 0, none⟩), .pointer (some ⟨p1, 0, none⟩), .pointer (some ⟨p2, 0, none⟩)] .returning w fun e u' w' =>
      e = .returned (.tuple #[]) ∧ u' = .returning ∧ w' = w := by
  refine callsD_of_wpS Try.func118 rfl fun c₀ cs hu => ?_
  apply wpS_seq
  apply wpS_region
  simp [wpOpsS, go_sem, recoverD, hu, Try.ntmps118, Exit.thenS]
  refine wpS_of_wp ?_
  go_wp2_with fail
  cases c₀
  simp_all [bodyPostS, results, Try.results118]

theorem good_iff (t : Tr) : Good 0 1 t ↔ t.ok = true := by
  unfold Good Tr.ok
  simp
  constructor
  · rintro ⟨h1, h2, h3⟩; exact ⟨⟨by omega, by omega⟩, h3⟩
  · rintro ⟨⟨h1, h2⟩, h3⟩; exact ⟨by omega, by omega, h3⟩

/-- What TreeSize lays ahead of its walk. -/
abbrev W5 (w : World) (o : Obj) : World := ((((w.alloc o).alloc (.cells #[.int .i64 0] 3)).alloc (.cells #[.int .i64 0] 3)).alloc (.cells #[.int .i64 0] 3)).alloc (.cells #[.int .i64 0, .int .i64 0] 152)

theorem w5_below (w : World) (o : Obj) : Below w.heap.size w (W5 w o) := ((((bel_alloc _ _).alloc (by simp) _).alloc (by simp; omega) _).alloc (by simp; omega) _).alloc (by simp; omega) _
theorem w5_size (w : World) (o : Obj) : (W5 w o).heap.size = w.heap.size + 5 := by simp
theorem w5_at (w : World) (o : Obj) : At2 (W5 w o) (w.heap.size + 1 + 1 + 1 + 1) 0 0 := by
  have h := World.rowIs_alloc ((((w.alloc o).alloc (.cells #[.int .i64 0] 3)).alloc (.cells #[.int .i64 0] 3)).alloc (.cells #[.int .i64 0] 3)) #[.int .i64 0, .int .i64 0] 152 (fun _ => .int .i64 0) (fun i hi => by
    simp at hi
    rcases i with _ | _ | i
    · rfl
    · rfl
    · omega)
  refine ⟨fun _ => .int .i64 0, ?_, rfl, rfl⟩
  simpa using h
theorem w5_cells (w : World) (o : Obj) : ((W5 w o).cell? ⟨w.heap.size + 1, 0, none⟩ = some (.int .i64 0) ∧ (W5 w o).cell? ⟨w.heap.size + 1 + 1, 0, none⟩ = some (.int .i64 0) ∧ (W5 w o).cell? ⟨w.heap.size + 1 + 1 + 1, 0, none⟩ = some (.int .i64 0)) ∧
    ((W5 w o).frozen? ⟨w.heap.size + 1, 0, none⟩ = false ∧ (W5 w o).frozen? ⟨w.heap.size + 1 + 1, 0, none⟩ = false ∧ (W5 w o).frozen? ⟨w.heap.size + 1 + 1 + 1, 0, none⟩ = false) := by
  simp [go_sem]

theorem But.frozen {p : Nat} {w w' : World} (h : But p w w') {a : Addr} {z : Bool} (hp : a.block ≠ p) (hl : a.block < w.heap.size) (hc : w.frozen? a = z) : w'.frozen? a = z :=
  (World.frozen?_of_block (w := w) (h.2.2.2.2 a.block hl hp)).trans hc

/-- Nothing older than N has turned, where N is at most p. -/
theorem But.below {p N : Nat} {w w' : World} (h : But p w w') (hp : N ≤ p) (hN : N ≤ w.heap.size) : Below N w w' :=
  ⟨h.1, h.2.1, h.2.2.1, h.2.2.2.1, fun k hk => h.2.2.2.2 k (by omega) (by omega)⟩

set_option maxHeartbeats 800000 in
theorem tsize_no {S : Nat → Prop} (t : Tr) (v : Value) (w : World) (hlies : Lies w S t v) (hok : t.ok = false) :
    Calls Try.prog 103 #[t.val v] w fun e w' => e = .returned (.tuple #[.int .i64 0, .int .i64 0, .int .i64 1]) ∧ Below w.heap.size w w' := by
  have hmf : ∀ (fn : Fn) (first cap : Array Value) (w : World), (Instr.makeFunc fn first cap).run Try.prog w = .ok (.func fn first cap) w := fun _ _ _ _ => rfl
  have hcall := fun (w' : World) (p : Nat) (hw : Below w.heap.size w w') (hp : w.heap.size ≤ p) (hat : At2 w' p 0 0) =>
    through_any t v w' p 0 0 1 (hlies.lt.still hw) (fun b hb => by omega) hat (by omega) (by omega) (by omega) (by omega) (by omega) (by omega)
  have HI := (show Hid _ from hcall); clear hcall
  obtain ⟨a, len, cap, rfl⟩ := hlies.form
  simp only [Tr.val]
  go_enter_defers Try.func103, Try.ntmps103
  go_wp2_with fail
  refine Calls.mono (HI.out (W5 w _) _ (w5_below _ _) (by omega) (w5_at _ _)) ?_
  rintro e w2 ⟨hbut, h⟩
  rcases h with ⟨hg, _, _⟩ | ⟨hg, rfl⟩
  · rw [(good_iff t).1 hg] at hok
    exact absurd hok (by simp)
  · have HB := (show Hid _ from hbut); clear hbut
    have HL := (show Hid _ from hlies); clear hlies hg
    go_wp2_with fail
    obtain ⟨⟨k0, k1, k2⟩, ⟨z0, z1, z2⟩⟩ := w5_cells w (.cells #[.string t.name, .string t.text, .bool t.leaf, .slice a len cap] 40)
    have hsz := w5_size w (.cells #[.string t.name, .string t.text, .bool t.leaf, .slice a len cap] 40)
    have hbw := w5_below w (.cells #[.string t.name, .string t.text, .bool t.leaf, .slice a len cap] 40)
    have hB : But (w.heap.size + 1 + 1 + 1 + 1) (W5 w (.cells #[.string t.name, .string t.text, .bool t.leaf, .slice a len cap] 40)) w2 := HB.out
    refine leaves_cons (f := 118) (args := #[.pointer (some ⟨w.heap.size + 1, 0, none⟩), .pointer (some ⟨w.heap.size + 1 + 1, 0, none⟩), .pointer (some ⟨w.heap.size + 1 + 1 + 1, 0, none⟩)]) (by simp) (by simp [go_sem]) ?_
    have k0' := hB.cell (by show w.heap.size + 1 ≠ _; omega) k0
    have k1' := hB.cell (by show w.heap.size + 1 + 1 ≠ _; omega) k1
    have k2' := hB.cell (by show w.heap.size + 1 + 1 + 1 ≠ _; omega) k2
    refine (catch_panicking _ _ _ 1 0 [] w2 _ _ _ k0' k1' k2'
      (hB.frozen (by show w.heap.size + 1 ≠ _; omega) (by show w.heap.size + 1 < _; omega) z0) (hB.frozen (by show w.heap.size + 1 + 1 ≠ _; omega) (by show w.heap.size + 1 + 1 < _; omega) z1) (hB.frozen (by show w.heap.size + 1 + 1 + 1 ≠ _; omega) (by show w.heap.size + 1 + 1 + 1 < _; omega) z2)
      (by omega) (by omega) (by omega)).mono ?_
    rintro e u' w'' ⟨rfl, rfl, w3, hb3, rfl⟩
    have hs2 : w.heap.size + 5 ≤ w2.heap.size := by have := hB.2.2.2.1; omega
    rw [← hb3.cell (lt_of_cell k0')] at k0'
    rw [← hb3.cell (lt_of_cell k1')] at k1'
    rw [← hb3.cell (lt_of_cell k2')] at k2'
    refine ⟨.tuple #[.int .i64 0, .int .i64 0, .int .i64 1], by simp [results, Try.results103, go_sem, k0', k1', k2'], rfl, ?_⟩
    have hb4 : Below w.heap.size w w3 := (hbw.trans (hB.below (by omega) (by omega))).trans (hb3.mono (by omega))
    exact ((hb4.setCell (by show w.heap.size ≤ w.heap.size + 1; omega) _).setCell (by show w.heap.size ≤ w.heap.size + 1 + 1; omega) _).setCell (by show w.heap.size ≤ w.heap.size + 1 + 1 + 1; omega) _

set_option maxHeartbeats 800000 in
theorem tsize_yes {S : Nat → Prop} (t : Tr) (v : Value) (w : World) (hlies : Lies w S t v) (hok : t.ok = true) :
    Calls Try.prog 103 #[t.val v] w fun e w' => e = .returned (.tuple #[.int .i64 t.cnt, .int .i64 t.deep, .int .i64 0]) ∧ Below w.heap.size w w' := by
  have hmf : ∀ (fn : Fn) (first cap : Array Value) (w : World), (Instr.makeFunc fn first cap).run Try.prog w = .ok (.func fn first cap) w := fun _ _ _ _ => rfl
  have hcall := fun (w' : World) (p : Nat) (hw : Below w.heap.size w w') (hp : w.heap.size ≤ p) (hat : At2 w' p 0 0) =>
    through_any t v w' p 0 0 1 (hlies.lt.still hw) (fun b hb => by omega) hat (by omega) (by omega) (by omega) (by omega) (by omega) (by omega)
  have HI := (show Hid _ from hcall); clear hcall
  obtain ⟨a, len, cap, rfl⟩ := hlies.form
  simp only [Tr.val]
  go_enter_defers Try.func103, Try.ntmps103
  go_wp2_with fail
  refine Calls.mono (HI.out (W5 w _) _ (w5_below _ _) (by omega) (w5_at _ _)) ?_
  rintro e w2 ⟨hbut, h⟩
  rcases h with ⟨hg, rfl, hat⟩ | ⟨hg, _⟩
  · have HB := (show Hid _ from hbut)
    have HL := (show Hid _ from hlies); clear hlies hg
    have hdp := Tr.deep_pos t
    obtain ⟨⟨k0, k1, k2⟩, ⟨z0, z1, z2⟩⟩ := w5_cells w (.cells #[.string t.name, .string t.text, .bool t.leaf, .slice a len cap] 40)
    have hsz := w5_size w (.cells #[.string t.name, .string t.text, .bool t.leaf, .slice a len cap] 40)
    have k0' := hbut.cell (by show w.heap.size + 1 ≠ _; omega) k0
    have k1' := hbut.cell (by show w.heap.size + 1 + 1 ≠ _; omega) k1
    have k2' := hbut.cell (by show w.heap.size + 1 + 1 + 1 ≠ _; omega) k2
    have z0' := hbut.frozen (by show w.heap.size + 1 ≠ _; omega) (by show w.heap.size + 1 < _; omega) z0
    have z1' := hbut.frozen (by show w.heap.size + 1 + 1 ≠ _; omega) (by show w.heap.size + 1 + 1 < _; omega) z1
    have z2' := hbut.frozen (by show w.heap.size + 1 + 1 + 1 ≠ _; omega) (by show w.heap.size + 1 + 1 + 1 < _; omega) z2
    have hat' : At2 w2 (w.heap.size + 1 + 1 + 1 + 1) t.cnt t.deep := At2.congr hat (by omega) (by omega)
    obtain ⟨y0, y1, _, _, _⟩ := hat'.cells
    clear k0 k1 k2 z0 z1 z2 hsz hat hat' hbut
    go_wp2_with fail
    go_region
    go_wp2_with fail
    have hB : But (w.heap.size + 1 + 1 + 1 + 1) (W5 w (.cells #[.string t.name, .string t.text, .bool t.leaf, .slice a len cap] 40)) w2 := HB.out
    have hsz := w5_size w (.cells #[.string t.name, .string t.text, .bool t.leaf, .slice a len cap] 40)
    have hbw := w5_below w (.cells #[.string t.name, .string t.text, .bool t.leaf, .slice a len cap] 40)
    refine leaves_cons (f := 118) (args := #[.pointer (some ⟨w.heap.size + 1, 0, none⟩), .pointer (some ⟨w.heap.size + 1 + 1, 0, none⟩), .pointer (some ⟨w.heap.size + 1 + 1 + 1, 0, none⟩)]) (by simp) (by simp [go_sem]) ?_
    refine (catch_idle _ _ _ _).mono ?_
    rintro e u' w'' ⟨rfl, rfl, rfl⟩
    refine ⟨.tuple #[.int .i64 t.cnt, .int .i64 t.deep, .int .i64 0], by simp [results, Try.results103, go_sem, k0', k1', k2'], rfl, ?_⟩
    have hb4 : Below w.heap.size w w2 := hbw.trans (hB.below (by omega) (by omega))
    exact (((hb4.setCell (by show w.heap.size ≤ w.heap.size + 1; omega) _).setCell (by show w.heap.size ≤ w.heap.size + 1 + 1; omega) _).setCell (by show w.heap.size ≤ w.heap.size + 1 + 1 + 1; omega) _).drew
  · exact absurd ((good_iff t).2 hok) hg

set_option maxHeartbeats 400000 in
theorem iOK_any {S : Nat → Prop} (t : Tr) (v : Value) (w : World) (hlies : Lies w S t v) :
    Calls Try.prog 58 #[t.val v] w fun e w' => e = .returned (.bool t.ok) ∧ Below w.heap.size w w' := by
  have hno := fun (w' : World) (hw : Below w.heap.size w w') => tsize_no t v w' (hlies.still hw)
  have hyes := fun (w' : World) (hw : Below w.heap.size w w') => tsize_yes t v w' (hlies.still hw)
  obtain ⟨a, len, cap, rfl⟩ := hlies.form
  have HN := (show Hid _ from hno); clear hno
  have HY := (show Hid _ from hyes); clear hyes
  simp only [Tr.val]
  cases hok : t.ok
  · have HO := (show Hid _ from hok); clear hok
    go_enter Try.func58, Try.ntmps58
    go_wp2_with fail
    refine Calls.mono (HN.out _ (bel_alloc _ _) HO.out) ?_
    rintro e w1 ⟨rfl, hb1⟩
    go_wp2_with fail
    go_ret
    exact ⟨rfl, bel_box hb1⟩
  · have HO := (show Hid _ from hok); clear hok
    go_enter Try.func58, Try.ntmps58
    go_wp2_with fail
    refine Calls.mono (HY.out _ (bel_alloc _ _) HO.out) ?_
    rintro e w1 ⟨rfl, hb1⟩
    go_wp2_with fail
    go_ret
    exact ⟨rfl, bel_box hb1⟩
end Go.Proofs.Ytledclkmeikgdaa.T
