import Derived.Test.YtboffildchoelaaYa
import Derived.Test.YtboffildchoelaaAo
import Derived.Lib.BufferMore
/-! The program: slices.Clone of numbers and of truth values; headOf. -/
namespace Go.Proofs.Ytboffildchoelaa
open Go.RowKit Go.Deep Go.Lib
set_option linter.unusedVariables false
set_option maxRecDepth 100000
set_option linter.unusedSimpArgs false

theorem info3i : (Try.prog.info? 3).map (fun i => (i.zero, i.size, i.bytes)) = some (some (.int .i64 0), 1, 8) := by kernel_rfl
theorem eqNil138 (a : Addr) (n c : Nat) (w : World) : (binOp .eql 138 (.slice (some a) n c) (.slice none 0 0)).run Try.prog w = .ok (.bool false) w := Lib.run_eql_slice_some_nil w _ _ _ Try.underlying138
set_option maxHeartbeats 1600000 in
theorem clone70 {B : Nat} (xs : List Value) (n : Nat) (pv : Value) (w : World) (h : w.ownsRow B 3 1 pv n xs) (hone : ∀ u ∈ xs, u.oneCell' = true) (hl : n ≤ 1000000) :
    Calls Try.prog 70 #[pv] w fun e w' => ∃ (ua : Option Addr) (uc : Nat), e = .returned (.slice ua n uc) ∧ Below w.heap.size w w' := by
  obtain ⟨i3, hi3, hz0, hz1, hz2⟩ := info_parts info3i
  rcases h.2 with ⟨rfl, h0⟩ | ⟨g, cap, cur, rfl, r2, r3, r4, r5, r6⟩
  · subst h0
    clear h
    have hq : ∀ W, (binOp .eql 138 (.slice none 0 0) (.slice none 0 0)).run Try.prog W = .ok (.bool true) W := fun W => Lib.run_eql_slice_nil_nil W _ _ Try.underlying138
    go_enter Try.func70, Try.ntmps70
    go_wp2_with fail
    go_ret
    exact ⟨none, 0, rfl, Below.refl _ _⟩
  · have hb0 := bel_alloc w (.cells #[] 3)
    have ho0 : (w.alloc (.cells #[] 3)).ownsRow w.heap.size 3 1 (.slice (some ⟨w.heap.size, 0, none⟩) 0 0) 0 [] := World.ownsRow_made w #[] 0 (Nat.le_refl _) (Nat.zero_le _) rfl
    have HO := (show Hid _ from ho0)
    have h1 := own_still h hb0
    have HNW := (show Hid (∀ j u, xs[j]? = some u → (w.alloc (.cells #[] 3)).cell? ((⟨g, 0, none⟩ : Addr).add j) = some u) from h1.cells (g := g) rfl)
    have HB0 := (show Hid (Below w.heap.size w (w.alloc (.cells #[] 3))) from hb0)
    have hq := eqNil138 ⟨g, 0, none⟩ n cap
    have hnl : xs.length = n * 1 := h.1
    have HNL := (show Hid _ from hnl)
    have HON := (show Hid _ from hone)
    clear h h1 hb0 ho0 r2 r3 r4 r5 r6 hnl hone
    go_enter Try.func70, Try.ntmps70
    go_wp2_with (at_builtin; refine wpList_append_own_at _ rfl (.tmp 5) (.tmp 6) 138 rfl w.heap.size 3 i3 _ 1 8 Try.underlying138 hi3 hz0 hz1 hz2 rfl (by decide) _ 0 [] rfl HO.out ⟨g, 0, none⟩ n cap xs rfl HNL.out HNW.out HON.out ?c3 (by omega) ?c4 ?nx)
    case c3 => unfold maxLen; omega
    case nx =>
      intro v' w1 hown hgr hnil hat
      have hb1 : Below w.heap.size w w1 := HB0.out.grown hgr HB0.out.size (fun k hk => by
        have e : w.heap.size = k := by simpa [Value.ownBlock] using hk
        omega)
      obtain ⟨ua, uc, rfl, _⟩ := own_ne hown
      have HY := (show Hid _ from hb1)
      clear hown hb1 hgr hnil hat
      go_wp2_with fail
      go_ret
      exact ⟨ua, uc, by simp [go_sem], HY.out⟩
theorem eqNil84 (a : Addr) (n c : Nat) (w : World) : (binOp .eql 84 (.slice (some a) n c) (.slice none 0 0)).run Try.prog w = .ok (.bool false) w := Lib.run_eql_slice_some_nil w _ _ _ Try.underlying84
set_option maxHeartbeats 1600000 in
theorem clone64 {B : Nat} (xs : List Value) (n : Nat) (pv : Value) (w : World) (h : w.ownsRow B 4 1 pv n xs) (hone : ∀ u ∈ xs, u.oneCell' = true) (hl : n ≤ 1000000) :
    Calls Try.prog 64 #[pv] w fun e w' => ∃ (ua : Option Addr) (uc : Nat), e = .returned (.slice ua n uc) ∧ Below w.heap.size w w' := by
  obtain ⟨i3, hi3, hz0, hz1, hz2⟩ := info_parts info4s
  rcases h.2 with ⟨rfl, h0⟩ | ⟨g, cap, cur, rfl, r2, r3, r4, r5, r6⟩
  · subst h0
    clear h
    have hq : ∀ W, (binOp .eql 84 (.slice none 0 0) (.slice none 0 0)).run Try.prog W = .ok (.bool true) W := fun W => Lib.run_eql_slice_nil_nil W _ _ Try.underlying84
    go_enter Try.func64, Try.ntmps64
    go_wp2_with fail
    go_ret
    exact ⟨none, 0, rfl, Below.refl _ _⟩
  · have hb0 := bel_alloc w (.cells #[] 4)
    have ho0 : (w.alloc (.cells #[] 4)).ownsRow w.heap.size 4 1 (.slice (some ⟨w.heap.size, 0, none⟩) 0 0) 0 [] := World.ownsRow_made w #[] 0 (Nat.le_refl _) (Nat.zero_le _) rfl
    have HO := (show Hid _ from ho0)
    have h1 := own_still h hb0
    have HNW := (show Hid (∀ j u, xs[j]? = some u → (w.alloc (.cells #[] 4)).cell? ((⟨g, 0, none⟩ : Addr).add j) = some u) from h1.cells (g := g) rfl)
    have HB0 := (show Hid (Below w.heap.size w (w.alloc (.cells #[] 4))) from hb0)
    have hq := eqNil84 ⟨g, 0, none⟩ n cap
    have hnl : xs.length = n * 1 := h.1
    have HNL := (show Hid _ from hnl)
    have HON := (show Hid _ from hone)
    clear h h1 hb0 ho0 r2 r3 r4 r5 r6 hnl hone
    go_enter Try.func64, Try.ntmps64
    go_wp2_with (at_builtin; refine wpList_append_own_at _ rfl (.tmp 5) (.tmp 6) 84 rfl w.heap.size 4 i3 _ 1 1 Try.underlying84 hi3 hz0 hz1 hz2 rfl (by decide) _ 0 [] rfl HO.out ⟨g, 0, none⟩ n cap xs rfl HNL.out HNW.out HON.out ?c3 (by omega) ?c4 ?nx)
    case c3 => unfold maxLen; omega
    case nx =>
      intro v' w1 hown hgr hnil hat
      have hb1 : Below w.heap.size w w1 := HB0.out.grown hgr HB0.out.size (fun k hk => by
        have e : w.heap.size = k := by simpa [Value.ownBlock] using hk
        omega)
      obtain ⟨ua, uc, rfl, _⟩ := own_ne hown
      have HY := (show Hid _ from hb1)
      clear hown hb1 hgr hnil hat
      go_wp2_with fail
      go_ret
      exact ⟨ua, uc, by simp [go_sem], HY.out⟩
set_option maxHeartbeats 800000 in
theorem head72 (n x : ByteArray) (lf : Bool) (kv : Value) (w : World) (hkv : kv.oneCell' = true) :
    Calls Try.prog 72 #[.agg #[.string n, .string x, .bool lf, kv]] w fun e w' => e = .returned (.agg #[.string n, .string x, .bool lf]) ∧ Below w.heap.size w w' := by
  go_enter Try.func72, Try.ntmps72
  go_wp2_with fail
  refine bodyPost_ret (v := .agg #[.string n, .string x, .bool lf]) (by simp [results, Try.results72, go_sem]) rfl ⟨rfl, ?_⟩
  exact (bel_alloc _ _).alloc (by simp) _
end Go.Proofs.Ytboffildchoelaa
