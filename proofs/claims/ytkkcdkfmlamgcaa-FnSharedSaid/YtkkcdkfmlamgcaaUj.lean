import Derived.Test.YtkkcdkfmlamgcaaUi
import Derived.Test.YtkkcdkfmlamgcaaUg
import Derived.Test.YtkkcdkfmlamgcaaIs
import Derived.Defers
import Derived.Recover
import Derived.KernelRfl
/-! The program's Unshare: what it is caught by, and what Share gives as it is read. -/
namespace Go.Proofs.Ytkkcdkfmlamgcaa
open Go.RowKit Go.Deep Go.Lib
set_option linter.unusedVariables false
set_option maxRecDepth 100000
set_option linter.unusedSimpArgs false

/-- Names and texts of nodes are not too long. -/
def szN (ns : List Nd) : Prop := ∀ n ∈ ns, n.nm.size ≤ maxLen ∧ n.tx.size ≤ maxLen
theorem put1_sz {ns : List Nd} {n : Nd} (h : szN ns) (hn : n.nm.size ≤ maxLen ∧ n.tx.size ≤ maxLen) : szN (put1 ns n).1 := by
  unfold put1
  split
  · exact h
  · intro m hm
    rcases List.mem_append.1 hm with e | e
    · exact h m e
    · rw [List.mem_singleton.1 e]; exact hn
theorem putK_sz : ∀ (k : List Tr) (ns : List Nd), (∀ i (hi : i < k.length) ns, k[i].right = true → szN ns → szN (putT k[i] ns).1) → (∀ t ∈ k, t.right = true) → szN ns → szN (putK (k.map putT) ns).1
  | [], ns, _, _, h => h
  | t :: r, ns, ih, hr, h => putK_sz r (putT t ns).1 (fun i hi ms => ih (i + 1) (by simp; omega) ms) (fun x hx => hr x (by simp [hx])) (ih 0 (by simp) ns (hr t (by simp)) h)
theorem putT_sz (t : Tr) : ∀ ns, t.right = true → szN ns → szN (putT t ns).1 := by
  refine Tr.ind (P := fun t => ∀ ns, t.right = true → szN ns → szN (putT t ns).1) ?_ t
  intro n x l k ih ns hr h
  rw [putT_mk]
  rw [Tr.right_mk, Bool.and_eq_true] at hr
  refine put1_sz (putK_sz k ns ih (fun t ht => ?_) h) ?_
  · have := hr.2
    unfold Tr.rightL at this
    exact List.all_eq_true.1 this t ht
  · have h1 := hr.1
    unfold Tr.alone at h1
    rw [Bool.and_eq_true] at h1
    obtain ⟨_, h2, _⟩ := nmB_iff.1 h1.1
    refine ⟨by unfold maxLen; dsimp only; omega, ?_⟩
    unfold maxLen
    dsimp only
    rcases Tr.alone_yes hr.1 with ⟨_, _, h4⟩ | ⟨_, h4⟩
    · omega
    · rw [isEmpty_iff, decide_eq_true_eq] at h4
      omega
theorem putTs_sz {T : List Tr} (h : tksB T = true) : szN (putTs T []).1 := by
  unfold tksB at h
  rw [Bool.and_eq_true, List.all_eq_true] at h
  refine putK_sz T [] (fun i hi ns => putT_sz _ ns) (fun t ht => ?_) (fun n hn => by simp at hn)
  have := h.2 t ht
  unfold Tr.ok at this
  simp only [Bool.and_eq_true] at this
  exact this.2
theorem DN.rds {B : Nat} {w : World} {u : Value} {ns : List Nd} {K : Nat → Prop} (h : DN B w u ns K) (hz : szN ns) : Rds w (fun _ => True) (ns.map rd) u := by
  obtain ⟨a, cap, hu, hc, hm⟩ := h.form
  obtain ⟨kv, kb, h⟩ := h
  have hl : (ns.map rd).length = ns.length := by simp
  have hzz : ∀ i (hi : i < (ns.map rd).length), (ns.map rd)[i].nm.size ≤ maxLen ∧ (ns.map rd)[i].tx.size ≤ maxLen := fun i hi => by
    rw [List.getElem_map]
    exact hz _ (List.getElem_mem _)
  rcases h.row.2 with ⟨e, e0⟩ | ⟨g, cp, cur, r1, r2⟩
  · exact ⟨a, cap, 0, 0, kv, by rw [hl]; exact hu, by omega, hm, fun h0 => by omega, fun i hi => by omega, hzz, fun i hi => by omega⟩
  · have hr := h.row
    rw [r1] at hr hu
    simp only [Value.slice.injEq] at hu
    refine ⟨some ⟨g, 0, none⟩, cp, g, 0, kv, by rw [hl]; exact r1, by omega, by omega, fun _ => ⟨rfl, trivial⟩, fun i hi => ?_, hzz, fun i hi => ?_⟩
    · have hi2 : i < ns.length := by omega
      obtain ⟨q0, q1, q2, q3⟩ := nc_get ns kv ns.length i hi2
      rw [nd_eq hi2] at q0 q1 q2
      rw [List.getElem_map]
      refine ⟨?_, ?_, ?_, ?_⟩
      · rw [Nat.zero_add, World.ownsRow.cellAt hr _ (by omega)]; exact q0
      · rw [Nat.zero_add, World.ownsRow.cellAt hr _ (by omega)]; exact q1
      · rw [Nat.zero_add, World.ownsRow.cellAt hr _ (by omega)]; exact q2
      · rw [Nat.zero_add, World.ownsRow.cellAt hr _ (by omega)]; exact q3
    · have hi2 : i < ns.length := by omega
      have hk := h.kid i hi2
      rw [nd_eq hi2] at hk
      rw [List.getElem_map]
      obtain ⟨a, c, b, o, e1, e2, e3, e4, e5⟩ := hk.ints
      exact ⟨a, c, b, o, e1, e2, e3, fun hp => ⟨(e4 hp).1, trivial⟩, e5⟩
theorem own_row_ints {w : World} {B : Nat} {v : Value} {l : List Int} (h : w.ownsRow B 3 1 v l.length (iv l)) : Ints w (fun _ => True) l v := by
  obtain ⟨a, c, b, o, e1, e2, e3, e4, e5⟩ := (own_ints h).ints
  exact ⟨a, c, b, o, e1, e2, e3, fun hp => ⟨(e4 hp).1, trivial⟩, e5⟩
theorem own_nothing (w : World) (B : Nat) : Own w B w.heap.size (dm []) (.slice none 0 0) :=
  Grw.done (k := []) ⟨fun _ => .bool false, fun _ => 0, fun _ => 0, own_nil _ _ _ _, fun i hi => absurd hi (Nat.not_lt_zero _), fun i hi => absurd hi (Nat.not_lt_zero _), fun i i' _ hi => absurd hi (Nat.not_lt_zero _)⟩ (by show (0 : Nat) ≤ _; exact Nat.zero_le _) (by show (0 : Nat) ≤ _; exact Nat.zero_le _)
theorem UnA.none {ns : List Rd} {rs : List Int} {w w' : World} (h : ∀ T, ¬ UnOK ns rs T) (hb : Below w.heap.size w w') : UnA ns rs w (.returned (.tuple #[.slice none 0 0, .int .i64 10])) w' :=
  ⟨[], 10, _, _, _, .inr ⟨h, rfl⟩, rfl, hb, own_nothing _ _⟩

theorem assert_fault52 (c a : Int) (w : World) : (Instr.typeAssert (.iface 60 (.agg #[.int .i64 c, .int .i64 a])) 20 60 true).run Try.prog w = .ok (.tuple #[.agg #[.int .i64 c, .int .i64 a], .bool true]) w := by kernel_rfl
theorem field_fault52 (c a : Int) (w : World) : (Instr.field 60 (.agg #[.int .i64 c, .int .i64 a]) 0).run Try.prog w = .ok (.int .i64 c) w := by kernel_rfl
theorem make_func (fn : Fn) (first cap : Array Value) (w : World) : (Instr.makeFunc fn first cap).run Try.prog w = .ok (.func fn first cap) w := rfl
set_option maxHeartbeats 400000 in
theorem faultIn52 (c a : Int) (w : World) :
    Calls Try.prog 24 #[.iface 60 (.agg #[.int .i64 c, .int .i64 a])] w fun e w' => e = .returned (.agg #[.int .i64 c, .int .i64 a]) ∧ Below w.heap.size w w' := by
  have hta := assert_fault52 c a
  go_enter Try.func24, Try.ntmps24
  go_wp2_with fail
  exact bodyPost_ret (v := .agg #[.int .i64 c, .int .i64 a]) (by simp [results, Try.results24, go_sem]) rfl ⟨rfl, (bel_alloc _ _).alloc (by simp) _⟩
set_option maxHeartbeats 400000 in
theorem catch51_panicking (p0 p1 : Nat) (c a : Int) (older : List PanicEntry) (w : World) (u0 u1 : Value)
    (h0 : w.cell? ⟨p0, 0, none⟩ = some u0) (h1 : w.cell? ⟨p1, 0, none⟩ = some u1)
    (z0 : w.frozen? ⟨p0, 0, none⟩ = false) (z1 : w.frozen? ⟨p1, 0, none⟩ = false) (n01 : p0 ≠ p1) :
    CallsD Try.prog 23 #[.pointer (some ⟨p0, 0, none⟩), .pointer (some ⟨p1, 0, none⟩)] (.panicking ({ v := .iface 60 (.agg #[.int .i64 c, .int .i64 a]), recovered := false } :: older)) w fun e u' w' =>
      e = .returned (.tuple #[]) ∧ u' = .panicking ({ v := .iface 60 (.agg #[.int .i64 c, .int .i64 a]), recovered := true } :: older) ∧
        ∃ w1, Below w.heap.size w w1 ∧ w' = (w1.setCell ⟨p0, 0, none⟩ (.slice none 0 0)).setCell ⟨p1, 0, none⟩ (.int .i64 c) := by
  have q0 := lt_of_cell h0
  have q1 := lt_of_cell h1
  refine callsD_of_wpS Try.func23 rfl fun c₀ cs hu => ?_
  apply wpS_seq
  apply wpS_region
  simp [wpOpsS, go_sem, recoverD, hu, Try.ntmps23, Exit.thenS]
  refine wpS_of_wp ?_
  go_wp2_with fail
  refine Calls.mono (faultIn52 c a w) ?_
  rintro e w1 ⟨rfl, hb1⟩
  rw [← hb1.cell (lt_of_cell h0)] at h0
  rw [← hb1.cell (lt_of_cell h1)] at h1
  rw [← hb1.frozen (by assumption)] at z0
  rw [← hb1.frozen (by assumption)] at z1
  have hfd := field_fault52 c a
  go_wp2_with fail
  exact ⟨rfl, _, rfl, _, by simp [results, Try.results23], rfl, rfl, w1, hb1, rfl⟩
set_option maxHeartbeats 400000 in
theorem catch51_idle (p0 p1 : Nat) (w : World) :
    CallsD Try.prog 23 #[.pointer (some ⟨p0, 0, none⟩), .pointer (some ⟨p1, 0, none⟩)] .returning w fun e u' w' =>
      e = .returned (.tuple #[]) ∧ u' = .returning ∧ w' = w := by
  refine callsD_of_wpS Try.func23 rfl fun c₀ cs hu => ?_
  apply wpS_seq
  apply wpS_region
  simp [wpOpsS, go_sem, recoverD, hu, Try.ntmps23, Exit.thenS]
  refine wpS_of_wp ?_
  go_wp2_with fail
  cases c₀
  simp_all [bodyPostS, results, Try.results23]
end Go.Proofs.Ytkkcdkfmlamgcaa
