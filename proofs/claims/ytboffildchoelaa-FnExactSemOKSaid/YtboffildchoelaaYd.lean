import Derived.Test.YtboffildchoelaaYc
import Derived.Test.YtboffildchoelaaXb
/-! The program: a part of a pattern is read. -/
namespace Go.Proofs.Ytboffildchoelaa
open Go.RowKit Go.Deep Go.Maps Go.WideMaps Go.ChangeMaps Go.Lib
set_option linter.unusedVariables false
set_option maxRecDepth 100000
set_option linter.unusedSimpArgs false

theorem info138s : (Try.prog.info? 138).map (fun i => (i.zero, i.size, i.bytes)) = some (some (.slice none 0 0), 1, 24) := by kernel_rfl
theorem info83s : (Try.prog.info? 83).map (fun i => (i.zero, i.size, i.bytes)) = some (some (.pointer none), 1, 8) := by kernel_rfl
theorem len_cntL (k : List Tr) : k.length ≤ Tr.cntL k := by
  induction k with
  | nil => simp
  | cons t r ih =>
    have := Tr.cnt_pos t
    have e : Tr.cntL (t :: r) = t.cnt + Tr.cntL r := by simp [Tr.cntL]
    simp only [List.length_cons]
    omega
abbrev o63_2_0 : Oper := { dst := some 18, op := Go.Op.move (Go.Operand.tmp 0), type := 122, pos := "l16_meanings.go:439", after := #[], guard := none }
abbrev o63_2_1 : Oper := { dst := some 19, op := Go.Op.move (Go.Operand.tmp 0), type := 122, pos := "l16_meanings.go:439", after := #[], guard := none }
abbrev o63_2_2 : Oper := { dst := some 20, op := Go.Op.nilCheck (Go.Operand.tmp 19), type := 0, pos := "l16_meanings.go:439", after := #[{ on := 1, ground := Go.Ground.data }], guard := none }
abbrev o63_2_3 : Oper := { dst := some 21, op := Go.Op.fieldAddr 112 (Go.Operand.tmp 20) 2, type := 0, pos := "l16_meanings.go:439", after := #[{ on := 2, ground := Go.Ground.data }], guard := none }
abbrev o63_2_4 : Oper := { dst := some 22, op := Go.Op.load 85 (Go.Operand.tmp 21), type := 85, pos := "l16_meanings.go:439", after := #[{ on := 3, ground := Go.Ground.data }], guard := none }
abbrev o63_2_5 : Oper := { dst := some 23, op := Go.Op.move (Go.Operand.tmp 2), type := 138, pos := "l16_meanings.go:439", after := #[], guard := none }
abbrev o63_2_6 : Oper := { dst := some 24, op := Go.Op.call { callee := Go.Callee.value (Go.Operand.func 70), args := #[Go.Operand.tmp 23], argTypes := #[138] }, type := 138, pos := "l16_meanings.go:439", after := #[{ on := 5, ground := Go.Ground.data }], guard := none }
abbrev o63_2_7 : Oper := { dst := some 25, op := Go.Op.buildSlice 85 1 #[(0, Go.Operand.tmp 24)], type := 85, pos := "l16_meanings.go:439", after := #[{ on := 6, ground := Go.Ground.data }], guard := none }
abbrev o63_2_8 : Oper := { dst := some 26, op := Go.Op.call { callee := Go.Callee.builtin Go.Builtin.append, args := #[Go.Operand.tmp 22, Go.Operand.tmp 25], argTypes := #[85, 85] }, type := 85, pos := "l16_meanings.go:439", after := #[{ on := 4, ground := Go.Ground.data }, { on := 7, ground := Go.Ground.data }, { on := 6, ground := Go.Ground.chain }], guard := none }
abbrev o63_2_9 : Oper := { dst := some 27, op := Go.Op.nilCheck (Go.Operand.tmp 18), type := 0, pos := "l16_meanings.go:439", after := #[{ on := 0, ground := Go.Ground.data }, { on := 0, ground := Go.Ground.phase }, { on := 1, ground := Go.Ground.phase }, { on := 2, ground := Go.Ground.phase }, { on := 3, ground := Go.Ground.phase }, { on := 4, ground := Go.Ground.phase }, { on := 5, ground := Go.Ground.phase }, { on := 6, ground := Go.Ground.phase }, { on := 7, ground := Go.Ground.phase }, { on := 8, ground := Go.Ground.phase }], guard := none }
abbrev o63_2_10 : Oper := { dst := some 28, op := Go.Op.fieldAddr 112 (Go.Operand.tmp 27) 2, type := 0, pos := "l16_meanings.go:439", after := #[{ on := 9, ground := Go.Ground.data }, { on := 0, ground := Go.Ground.phase }, { on := 1, ground := Go.Ground.phase }, { on := 2, ground := Go.Ground.phase }, { on := 3, ground := Go.Ground.phase }, { on := 4, ground := Go.Ground.phase }, { on := 5, ground := Go.Ground.phase }, { on := 6, ground := Go.Ground.phase }, { on := 7, ground := Go.Ground.phase }, { on := 8, ground := Go.Ground.phase }], guard := none }
abbrev o63_2_11 : Oper := { dst := none, op := Go.Op.store 85 (Go.Operand.tmp 28) (Go.Operand.tmp 26), type := 0, pos := "l16_meanings.go:439", after := #[{ on := 10, ground := Go.Ground.data }, { on := 8, ground := Go.Ground.data }, { on := 8, ground := Go.Ground.chain }, { on := 0, ground := Go.Ground.phase }, { on := 1, ground := Go.Ground.phase }, { on := 2, ground := Go.Ground.phase }, { on := 3, ground := Go.Ground.phase }, { on := 4, ground := Go.Ground.phase }, { on := 5, ground := Go.Ground.phase }, { on := 6, ground := Go.Ground.phase }, { on := 7, ground := Go.Ground.phase }, { on := 8, ground := Go.Ground.phase }], guard := none }
abbrev o63_11_0 : Oper := { dst := some 73, op := Go.Op.move (Go.Operand.tmp 7), type := 83, pos := "l16_meanings.go:447", after := #[], guard := none }
abbrev o63_11_1 : Oper := { dst := some 74, op := Go.Op.move (Go.Operand.tmp 7), type := 83, pos := "l16_meanings.go:447", after := #[], guard := none }
abbrev o63_11_2 : Oper := { dst := some 75, op := Go.Op.nilCheck (Go.Operand.tmp 74), type := 0, pos := "l16_meanings.go:447", after := #[{ on := 1, ground := Go.Ground.data }], guard := none }
abbrev o63_11_3 : Oper := { dst := some 76, op := Go.Op.fieldAddr 129 (Go.Operand.tmp 75) 3, type := 0, pos := "l16_meanings.go:447", after := #[{ on := 2, ground := Go.Ground.data }], guard := none }
abbrev o63_11_4 : Oper := { dst := some 77, op := Go.Op.load 127 (Go.Operand.tmp 76), type := 127, pos := "l16_meanings.go:447", after := #[{ on := 3, ground := Go.Ground.data }], guard := none }
abbrev o63_11_5 : Oper := { dst := some 78, op := Go.Op.move (Go.Operand.tmp 0), type := 122, pos := "l16_meanings.go:447", after := #[], guard := none }
abbrev o63_11_6 : Oper := { dst := some 79, op := Go.Op.load 42 (Go.Operand.tmp 9), type := 42, pos := "l16_meanings.go:447", after := #[], guard := none }
abbrev o63_11_7 : Oper := { dst := some 80, op := Go.Op.move (Go.Operand.tmp 2), type := 138, pos := "l16_meanings.go:447", after := #[], guard := none }
abbrev o63_11_8 : Oper := { dst := some 81, op := Go.Op.move (Go.Operand.tmp 8), type := 3, pos := "l16_meanings.go:447", after := #[], guard := none }
abbrev o63_11_9 : Oper := { dst := some 82, op := Go.Op.buildSlice 138 1 #[(0, Go.Operand.tmp 81)], type := 138, pos := "l16_meanings.go:447", after := #[{ on := 8, ground := Go.Ground.data }], guard := none }
abbrev o63_11_10 : Oper := { dst := some 83, op := Go.Op.call { callee := Go.Callee.builtin Go.Builtin.append, args := #[Go.Operand.tmp 80, Go.Operand.tmp 82], argTypes := #[138, 138] }, type := 138, pos := "l16_meanings.go:447", after := #[{ on := 7, ground := Go.Ground.data }, { on := 9, ground := Go.Ground.data }], guard := none }
abbrev o63_11_11 : Oper := { dst := some 84, op := Go.Op.call { callee := Go.Callee.value (Go.Operand.func 63), args := #[Go.Operand.tmp 78, Go.Operand.tmp 79, Go.Operand.tmp 83], argTypes := #[122, 42, 138] }, type := 83, pos := "l16_meanings.go:447", after := #[{ on := 5, ground := Go.Ground.data }, { on := 6, ground := Go.Ground.data }, { on := 10, ground := Go.Ground.data }, { on := 10, ground := Go.Ground.chain }], guard := none }
abbrev o63_11_12 : Oper := { dst := some 85, op := Go.Op.buildSlice 127 1 #[(0, Go.Operand.tmp 84)], type := 127, pos := "l16_meanings.go:447", after := #[{ on := 11, ground := Go.Ground.data }], guard := none }
abbrev o63_11_13 : Oper := { dst := some 86, op := Go.Op.call { callee := Go.Callee.builtin Go.Builtin.append, args := #[Go.Operand.tmp 77, Go.Operand.tmp 85], argTypes := #[127, 127] }, type := 127, pos := "l16_meanings.go:447", after := #[{ on := 4, ground := Go.Ground.data }, { on := 12, ground := Go.Ground.data }, { on := 11, ground := Go.Ground.chain }], guard := none }
abbrev o63_11_14 : Oper := { dst := some 87, op := Go.Op.nilCheck (Go.Operand.tmp 73), type := 0, pos := "l16_meanings.go:447", after := #[{ on := 0, ground := Go.Ground.data }, { on := 0, ground := Go.Ground.phase }, { on := 1, ground := Go.Ground.phase }, { on := 2, ground := Go.Ground.phase }, { on := 3, ground := Go.Ground.phase }, { on := 4, ground := Go.Ground.phase }, { on := 5, ground := Go.Ground.phase }, { on := 6, ground := Go.Ground.phase }, { on := 7, ground := Go.Ground.phase }, { on := 8, ground := Go.Ground.phase }, { on := 9, ground := Go.Ground.phase }, { on := 10, ground := Go.Ground.phase }, { on := 11, ground := Go.Ground.phase }, { on := 12, ground := Go.Ground.phase }, { on := 13, ground := Go.Ground.phase }], guard := none }
abbrev o63_11_15 : Oper := { dst := some 88, op := Go.Op.fieldAddr 129 (Go.Operand.tmp 87) 3, type := 0, pos := "l16_meanings.go:447", after := #[{ on := 14, ground := Go.Ground.data }, { on := 0, ground := Go.Ground.phase }, { on := 1, ground := Go.Ground.phase }, { on := 2, ground := Go.Ground.phase }, { on := 3, ground := Go.Ground.phase }, { on := 4, ground := Go.Ground.phase }, { on := 5, ground := Go.Ground.phase }, { on := 6, ground := Go.Ground.phase }, { on := 7, ground := Go.Ground.phase }, { on := 8, ground := Go.Ground.phase }, { on := 9, ground := Go.Ground.phase }, { on := 10, ground := Go.Ground.phase }, { on := 11, ground := Go.Ground.phase }, { on := 12, ground := Go.Ground.phase }, { on := 13, ground := Go.Ground.phase }], guard := none }
abbrev o63_11_16 : Oper := { dst := none, op := Go.Op.store 127 (Go.Operand.tmp 88) (Go.Operand.tmp 86), type := 0, pos := "l16_meanings.go:447", after := #[{ on := 15, ground := Go.Ground.data }, { on := 13, ground := Go.Ground.data }, { on := 13, ground := Go.Ground.chain }, { on := 0, ground := Go.Ground.phase }, { on := 1, ground := Go.Ground.phase }, { on := 2, ground := Go.Ground.phase }, { on := 3, ground := Go.Ground.phase }, { on := 4, ground := Go.Ground.phase }, { on := 5, ground := Go.Ground.phase }, { on := 6, ground := Go.Ground.phase }, { on := 7, ground := Go.Ground.phase }, { on := 8, ground := Go.Ground.phase }, { on := 9, ground := Go.Ground.phase }, { on := 10, ground := Go.Ground.phase }, { on := 11, ground := Go.Ground.phase }, { on := 12, ground := Go.Ground.phase }, { on := 13, ground := Go.Ground.phase }], guard := none }
set_option maxHeartbeats 25600000 in
theorem part63 {B b m : Nat} (t : Tr) : ∀ v, PaC B b m t v := by
  refine Tr.ind (P := fun t => ∀ v, PaC B b m t v) ?_ t
  intro n x lf k ih v ks hn f uv uh pvv pn xs w hR hpw hpd hone hB hl h1 h2 h3
  have HI := (show Hid _ from ih); clear ih
  have HR := (show Hid _ from hR)
  have HPW := (show Hid _ from hpw)
  have HPD := (show Hid _ from hpd)
  have HON := (show Hid _ from hone)
  have HBB := (show Hid _ from hB)
  have HKL := (show Hid _ from len_cntL k)
  obtain ⟨a, cap, b', off, sv, rfl, hnz, hxz, hc, hm, ha, hcell, hk⟩ := hl.out
  dsimp only at hnz hxz hc hm ha hcell hk
  have HA := (show Hid _ from ha); clear ha
  have HC := (show Hid _ from hcell); clear hcell
  have HK := (show Hid _ from hk); clear hk hl
  have hm' := hm
  unfold maxLen at hm'
  rw [Tr.cnt_mk] at h1 h2
  rw [Tr.deep_mk] at h3
  obtain ⟨pa, pc, rfl, _⟩ := own_ne hpw
  obtain ⟨hs, hrh⟩ := hR.rh
  obtain ⟨ha', hac, rfl, _⟩ := own_ne hrh
  have HRH := (show Hid _ from hrh)
  clear hrh hpw hpd hone hB hm hnz hR
  obtain ⟨i138, hi138, hy0, hy1, hy2⟩ := info_parts info138s
  obtain ⟨i83, hi83, hx0, hx1, hx2⟩ := info_parts info83s
  obtain ⟨i3, hi3, hz0, hz1', hz2⟩ := info_parts info3i
  simp only [Tr.val]
  cases lf with
  | false =>
    have HHO := (show Hid (hoB n false = false) from rfl)
    have HV6 := (show Hid (v6B n false = false) from rfl)
    have HHD := (show Hid _ from head72 n x false (.slice a k.length cap) (w.alloc (.cells #[.string n, .string x, .bool false, .slice a k.length cap] 42)) rfl)
    have HXB := (show Hid (∀ w1 : World, PB (⟨B, b, m, ks, hn, f, uv, (.slice ha' hn hac), (.slice pa pn pc), pn, xs, w, n, x, false, .slice a k.length cap, w1.heap.size⟩ : PX)) from fun w1 => ⟨HR.out, HPW.out, HPD.out, HON.out, HBB.out⟩)
    have HST := (show Hid (∀ w1 : World, Below (w.alloc (.cells #[.string n, .string x, .bool false, .slice a k.length cap] 42)).heap.size (w.alloc (.cells #[.string n, .string x, .bool false, .slice a k.length cap] 42)) w1 → (w1.alloc (.cells #[.string n, .string x, .bool false, .int .i64 0, .int .i64 0, .slice none 0 0] 129)).cell? ⟨w.heap.size, 3, none⟩ = some (.slice a k.length cap) ∧ PI (⟨B, b, m, ks, hn, f, uv, (.slice ha' hn hac), (.slice pa pn pc), pn, xs, w, n, x, false, .slice a k.length cap, w1.heap.size⟩ : PX) k 0 uv (.slice ha' hn hac) (.slice none 0 0) (w1.alloc (.cells #[.string n, .string x, .bool false, .int .i64 0, .int .i64 0, .slice none 0 0] 129))) from fun w1 hb1 => by
      have hz0 : (w.alloc (.cells #[.string n, .string x, .bool false, .slice a k.length cap] 42)).heap.size = w.heap.size + 1 := by simp
      have hz1 := hb1.size
      have hbw : Below w.heap.size w (w1.alloc (.cells #[.string n, .string x, .bool false, .int .i64 0, .int .i64 0, .slice none 0 0] 129)) := bel_trans (bel_trans (bel_alloc w (.cells #[.string n, .string x, .bool false, .slice a k.length cap] 42)) hb1) (bel_alloc _ _)
      have bt : Box (w1.alloc (.cells #[.string n, .string x, .bool false, .int .i64 0, .int .i64 0, .slice none 0 0] 129)) w.heap.size 42 [.string n, .string x, .bool false, .slice a k.length cap] := ((Box.new w 42 _).still hb1).still (bel_alloc _ _)
      refine ⟨bt.cell 3 (by simp), ?_⟩
      refine ⟨?_, Fm.of_below hbw, own_still HPW.out hbw, At1.refl _ _, At1.refl _ _, bt, Box.new w1 129 _, ⟨[], own_nil _ _ _ _⟩, ?_, ⟨fun e => ?_, fun e => ?_⟩, ⟨fun e => ?_, fun e => ?_⟩, fun q hq => by cases hq⟩
      · have r := HR.out.still hbw
        simpa [pvK, phL] using r
      · show w.heap.size < w1.heap.size; omega
      · have := (HR.out.uvl _ e).2; dsimp only at this; omega
      · have := (HR.out.uvl _ e).2; dsimp only at this; omega
      · have := (HR.out.uhl _ e).2; dsimp only at this; omega
      · have := (HR.out.uhl _ e).2; dsimp only at this; omega)
    have HTB := (show Hid (∀ (w1 : World) (j : Nat) (uvj uhj kvj : Value) (wr : World), PI (⟨B, b, m, ks, hn, f, uv, (.slice ha' hn hac), (.slice pa pn pc), pn, xs, w, n, x, false, .slice a k.length cap, w1.heap.size⟩ : PX) k j uvj uhj kvj wr → Below B w wr) from fun w1 j uvj uhj kvj wr h => h.fm.below (by
      rintro q (e | e | e | e | e)
      · rw [e]; exact HR.out.hb
      · rw [e]; exact HR.out.hm
      · exact (HR.out.uvl q e).1
      · exact (HR.out.uhl q e).1
      · exact (World.ownsRow.lt HPW.out q e).1) HBB.out)
    have HFIN := (show Hid (∀ (w1 : World) (uvj uhj kvj : Value) (wr : World), w.heap.size ≤ w1.heap.size → PI (⟨B, b, m, ks, hn, f, uv, (.slice ha' hn hac), (.slice pa pn pc), pn, xs, w, n, x, false, .slice a k.length cap, w1.heap.size⟩ : PX) k k.length uvj uhj kvj wr → PaA B b m ks hn f uv (.slice ha' hn hac) (.slice pa pn pc) pn xs ⟨n, x, false, k⟩ w (.returned (.pointer (some ⟨w1.heap.size, 0, none⟩))) wr) from fun w1 uvj uhj kvj wr hz h => by
      refine ⟨w1.heap.size, uvj, uhj, n, x, false, 0, kvj, rfl, hz, ?_, ?_, h.fm, h.pw, h.a1, h.a2, h.d1.1, h.d2.1⟩
      · have e : kd n false = 0 := by unfold kd; rw [if_neg (by rw [HHO.out]; simp), if_neg (by rw [HV6.out]; simp)]
        dsimp only
        rw [e]
        exact h.bp
      · have r := h.rs
        rw [List.take_length] at r
        rw [pv_mk, ph_mk, pf_mk, if_neg (by rw [HHO.out]; simp), if_neg (by rw [HV6.out]; simp), if_neg (by rw [HHO.out]; simp), if_neg (by rw [HV6.out]; simp), if_neg (by rw [HHO.out]; simp), if_neg (by rw [HV6.out]; simp)]
        exact r)
    go_enter Try.func63, Try.ntmps63
    go_wp2_with fail
    refine Calls.mono HHD.out ?_
    rintro e w1 ⟨rfl, hb1⟩
    obtain ⟨T3, hPI⟩ := HST.out w1 hb1
    have HP0 := (show Hid _ from hPI)
    have hz1 : w.heap.size ≤ w1.heap.size := by have := hb1.size; simp at this; omega
    clear hb1 hPI HST HHD
    go_wp2_with fail
    go_loopw [68] (fun i wr => ∃ (j : Nat) (uvj uhj kvj : Value), i = .int .i64 j ∧ j ≤ k.length ∧ Hid (PI (⟨B, b, m, ks, hn, f, uv, (.slice ha' hn hac), (.slice pa pn pc), pn, xs, w, n, x, false, .slice a k.length cap, w1.heap.size⟩ : PX) k j uvj uhj kvj wr)) (fun i _ => k.length - (intOf i).toNat)
    case atStart => exact ⟨0, uv, (.slice ha' hn hac), .slice none 0 0, rfl, Nat.zero_le _, HP0⟩
    case round =>
      obtain ⟨j, uvj, uhj, kvj, rfl, hj, HP⟩ := hrel
      clear HP0 T3
      by_cases hlt : j < k.length
      · have i1 : (j : Int) < (k.length : Int) := by omega
        have i0 : (0 : Int) ≤ (j : Int) := by omega
        have hbel := HTB.out w1 j uvj uhj kvj wr HP.out
        obtain ⟨rfl, hSb⟩ := HA.out (by omega)
        obtain ⟨d0, d1, d2, d3⟩ := HC.out j hlt
        rw [← hbel.cell (show b' < B from hSb)] at d0 d1 d2 d3
        obtain ⟨s1, s2, s3, ep⟩ := (HK.out j hlt).form
        have hlj := HK.out j hlt
        rw [ep] at d3 hlj
        have HUP := (show Hid _ from pi_up (HXB.out w1) hlt HP.out (HI.out j hlt (.slice s1 s2 s3)) hlj (by show ks.length + Tr.cntL k + 1 ≤ 100000; omega) (by show hn + Tr.cntL k + 1 ≤ 100000; omega) (by show pn + Tr.deepL k + 1 ≤ 100000; omega))
        have hpl : w1.heap.size < wr.heap.size := HP.out.bp.lt
        obtain ⟨ks1, kc1, rfl⟩ : ∃ a c, kvj = .slice a j c := by
          obtain ⟨ys, hys⟩ := HP.out.kr
          obtain ⟨a, c, e, _⟩ := own_ne hys
          exact ⟨a, c, e⟩
        have K0 : (wK wr k[j] (.slice s1 s2 s3)).cell? ⟨w1.heap.size, 5, none⟩ = some (.slice ks1 j kc1) := (HP.out.bp.still (((bel_alloc wr _).drew))).cell 5 (by simp)
        have K1 : (wP wr k[j] (.slice s1 s2 s3) j).cell? ⟨w1.heap.size, 5, none⟩ = some (.slice ks1 j kc1) := ((HP.out.bp.still (((bel_alloc wr _).drew))).still (bel_alloc _ _)).cell 5 (by simp)
        have K1a : ((wr.alloc (.cells #[.string k[j].name, .string k[j].text, .bool k[j].leaf, .slice s1 s2 s3] 42)).alloc (.cells #[.int .i64 (j : Int)] 3)).drew.cell? ⟨w1.heap.size, 5, none⟩ = some (.slice ks1 j kc1) := ((HP.out.bp.still (bel_alloc wr _)).still ((bel_alloc _ _).drew)).cell 5 (by simp)
        have K1b : ((wr.alloc (.cells #[.string k[j].name, .string k[j].text, .bool k[j].leaf, .slice s1 s2 s3] 42)).alloc (.cells #[.int .i64 (j : Int)] 3)).cell? ⟨w1.heap.size, 5, none⟩ = some (.slice ks1 j kc1) := ((HP.out.bp.still (bel_alloc wr _)).still (bel_alloc _ _)).cell 5 (by simp)
        have hS0 : Sc wr.heap.size k[j] (.slice s1 s2 s3) (wK wr k[j] (.slice s1 s2 s3)) := sc_box ((Box.new wr 42 [.string k[j].name, .string k[j].text, .bool k[j].leaf, .slice s1 s2 s3]).still ((Below.refl _ _).drew))
        have hS1 : Sc wr.heap.size k[j] (.slice s1 s2 s3) (wP wr k[j] (.slice s1 s2 s3) j) := sc_box (((Box.new wr 42 [.string k[j].name, .string k[j].text, .bool k[j].leaf, .slice s1 s2 s3]).still ((Below.refl _ _).drew)).still (bel_alloc _ _))
        have HO5 := (show Hid ((wP wr k[j] (.slice s1 s2 s3) j).ownsRow B 3 1 (.slice pa pn pc) pn xs) from own_still (own_still HP.out.pw ((bel_alloc wr _).drew)) (bel_alloc _ _))
        have HU5 := (show Hid ((wP wr k[j] (.slice s1 s2 s3) j).cell? ⟨wr.heap.size + 1, 0, none⟩ = some (.int .i64 j)) from (by
          have h := (Box.new (wK wr k[j] (.slice s1 s2 s3)) 3 [.int .i64 (j : Int)]).cell 0 (by simp)
          have e : (wK wr k[j] (.slice s1 s2 s3)).heap.size = wr.heap.size + 1 := by simp
          rw [e] at h
          exact h))
        have HZ5 := (show Hid (B ≤ (wP wr k[j] (.slice s1 s2 s3) j).heap.size) from (by have := HBB.out; have := HP.out.fm.size; show B ≤ _; simp; omega))
        have hjs : j ≤ 100000 := by
          have h1' : k.length ≤ Tr.cntL k := HKL.out
          omega
        clear hbel ep hlj HP HTB
        dsimp only [wK, wP, kidB] at K0 K1 HO5 HU5 HZ5 hS0 hS1 HUP
        unfold Sc at hS0 hS1
        go_wp2_with fail
        refine wp_region_held_drew (S := (fun wq => wq.cell? ⟨wr.heap.size, 0, none⟩ = some (.string k[j].name) ∧ wq.cell? ⟨wr.heap.size, 1, none⟩ = some (.string k[j].text) ∧ wq.cell? ⟨wr.heap.size, 2, none⟩ = some (.bool k[j].leaf) ∧ wq.cell? ⟨wr.heap.size, 3, none⟩ = some (.slice s1 s2 s3))) (by kernel_rfl) hS0 (fun hHeld => ?_)
        refine wpAnyH_take (i := 0) (oi := o63_11_0) (v := ?v1) rfl (by kernel_rfl) (by kernel_rfl) (by kernel_rfl) (fun _ _ _ h => h) (Or.inl ⟨by rfl, ?h1⟩) hHeld ?r1
        case h1 => (intro w hSw; (try dsimp only at hSw); go_simp; try with_reducible rfl)
        try simp only [Act.put, List.setIfInBounds_toArray, List.set_cons_zero, List.set_cons_succ]
        refine wpAnyH_take (i := 1) (oi := o63_11_1) (v := ?v2) rfl (by kernel_rfl) (by kernel_rfl) (by kernel_rfl) (fun _ _ _ h => h) (Or.inl ⟨by rfl, ?h2⟩) hHeld ?r2
        case h2 => (intro w hSw; (try dsimp only at hSw); go_simp; try with_reducible rfl)
        try simp only [Act.put, List.setIfInBounds_toArray, List.set_cons_zero, List.set_cons_succ]
        refine wpAnyH_take (i := 2) (oi := o63_11_2) (v := ?v3) rfl (by kernel_rfl) (by kernel_rfl) (by kernel_rfl) (fun _ _ _ h => h) (Or.inl ⟨by rfl, ?h3⟩) hHeld ?r3
        case h3 => (intro w hSw; (try dsimp only at hSw); go_simp; try with_reducible rfl)
        try simp only [Act.put, List.setIfInBounds_toArray, List.set_cons_zero, List.set_cons_succ]
        refine wpAnyH_take (i := 3) (oi := o63_11_3) (v := ?v4) rfl (by kernel_rfl) (by kernel_rfl) (by kernel_rfl) (fun _ _ _ h => h) (Or.inl ⟨by rfl, ?h4⟩) hHeld ?r4
        case h4 => (intro w hSw; (try dsimp only at hSw); go_simp; try with_reducible rfl)
        try simp only [Act.put, List.setIfInBounds_toArray, List.set_cons_zero, List.set_cons_succ]
        refine wpAnyH_take (i := 5) (oi := o63_11_5) (v := ?v5) rfl (by kernel_rfl) (by kernel_rfl) (by kernel_rfl) (fun _ _ _ h => h) (Or.inl ⟨by rfl, ?h5⟩) hHeld ?r5
        case h5 => (intro w hSw; (try dsimp only at hSw); go_simp; try with_reducible rfl)
        try simp only [Act.put, List.setIfInBounds_toArray, List.set_cons_zero, List.set_cons_succ]
        refine wpAnyH_take (i := 6) (oi := o63_11_6) (v := ?v6) rfl (by kernel_rfl) (by kernel_rfl) (by kernel_rfl) (fun _ _ _ h => h) (Or.inl ⟨by rfl, ?h6⟩) hHeld ?r6
        case h6 => (intro w hSw; (try dsimp only at hSw); go_simp; try with_reducible rfl)
        try simp only [Act.put, List.setIfInBounds_toArray, List.set_cons_zero, List.set_cons_succ]
        refine wpAnyH_take (i := 7) (oi := o63_11_7) (v := ?v7) rfl (by kernel_rfl) (by kernel_rfl) (by kernel_rfl) (fun _ _ _ h => h) (Or.inl ⟨by rfl, ?h7⟩) hHeld ?r7
        case h7 => (intro w hSw; (try dsimp only at hSw); go_simp; try with_reducible rfl)
        try simp only [Act.put, List.setIfInBounds_toArray, List.set_cons_zero, List.set_cons_succ]
        refine wpAnyH_take (i := 8) (oi := o63_11_8) (v := ?v8) rfl (by kernel_rfl) (by kernel_rfl) (by kernel_rfl) (fun _ _ _ h => h) (Or.inl ⟨by rfl, ?h8⟩) hHeld ?r8
        case h8 => (intro w hSw; (try dsimp only at hSw); go_simp; try with_reducible rfl)
        try simp only [Act.put, List.setIfInBounds_toArray, List.set_cons_zero, List.set_cons_succ]
        refine wpAnyH_ready (rs := [4, 9]) (by kernel_rfl) (by simp) ?_
        refine (AllReadyH.cons (o := o63_11_4) rfl (fun K hK => ?yc10) (AllReadyH.cons (o := o63_11_9) rfl (fun K hK => ?yc9) AllReadyH.nil))
        case' yc10 =>
          go_simp
          clear hHeld
          refine hK.out _ _ hS0 (fun hHeld => ?_)
          clear hK K
          try simp only [Act.put, List.setIfInBounds_toArray, List.set_cons_zero, List.set_cons_succ]
          refine wpAnyH_ready (rs := [9]) (by kernel_rfl) (by simp) ?_
          refine (AllReadyH.cons (o := o63_11_9) rfl (fun K hK => ?yc11) AllReadyH.nil)
          case' yc11 =>
            go_simp
            clear hHeld
            refine hK.out _ _ hS1 (fun hHeld => ?_)
            clear hK K
            try simp only [Act.put, List.setIfInBounds_toArray, List.set_cons_zero, List.set_cons_succ]
            refine wpAnyH_ready (rs := [10]) (by kernel_rfl) (by simp) ?_
            refine (AllReadyH.cons (o := o63_11_10) rfl (fun K hK => ?yc12) AllReadyH.nil)
            case' yc12 =>
              (refine step_append_one _ rfl (.tmp 80) (.tmp 82) 138 rfl B i3 _ 8 Try.underlying138 hi3 hz0 hz1' hz2 rfl (.slice pa pn pc) pn xs (by simp [Act.eval, Act.put]) HO5.out ⟨wr.heap.size + 1, 0, none⟩ 1 (.int .i64 j) (by simp [Act.eval, Act.put]) HU5.out rfl (by unfold maxLen; omega) (by omega) HZ5.out ?_; intro v7 w7 hom; obtain ⟨hS7, K2, hcl⟩ := HUP.out v7 w7 hom; have HCL := (show Hid _ from hcl); obtain ⟨_, ⟨g7, c7, rfl⟩, _⟩ := hom; clear hcl HUP HO5 HU5 HZ5; unfold Sc at hS7; simp only [Tr.val] at HCL)
              clear hHeld
              refine hK.out _ _ hS7 (fun hHeld => ?_)
              clear hK K
              try simp only [Act.put, List.setIfInBounds_toArray, List.set_cons_zero, List.set_cons_succ]
              refine wpAnyH_ready (rs := [11]) (by kernel_rfl) (by simp) ?_
              refine (AllReadyH.cons (o := o63_11_11) rfl (fun K hK => ?yc13) AllReadyH.nil)
              case' yc13 =>
                go_simp
                refine Calls.mono HCL.out ?_
                rintro e w8 ⟨q8, rfl, hp8⟩
                dsimp only
                obtain ⟨hS8, K3, K4, hS9, hZ8, ys, hys, hup⟩ := hp8
                have HYS := (show Hid _ from hys)
                have HZ8 := (show Hid _ from hZ8)
                have HU9 := (show Hid _ from hup)
                clear hys hup hZ8 HCL
                unfold Sc at hS8 hS9
                dsimp only at K3 K4
                clear hHeld
                refine hK.out _ _ hS8 (fun hHeld => ?_)
                clear hK K
                try simp only [Act.put, List.setIfInBounds_toArray, List.set_cons_zero, List.set_cons_succ]
                refine wpAnyH_ready (rs := [12]) (by kernel_rfl) (by simp) ?_
                refine (AllReadyH.cons (o := o63_11_12) rfl (fun K hK => ?yc14) AllReadyH.nil)
                case' yc14 =>
                  go_simp
                  clear hHeld
                  refine hK.out _ _ hS9 (fun hHeld => ?_)
                  clear hK K
                  try simp only [Act.put, List.setIfInBounds_toArray, List.set_cons_zero, List.set_cons_succ]
                  refine wpAnyH_ready (rs := [13]) (by kernel_rfl) (by simp) ?_
                  refine (AllReadyH.cons (o := o63_11_13) rfl (fun K hK => ?yc15) AllReadyH.nil)
                  case' yc15 =>
                    (refine step_append_lies _ rfl (.tmp 77) (.tmp 85) 127 rfl w.heap.size 83 i83 _ 1 8 Try.underlying127 hi83 hx0 hx1 hx2 rfl (by decide) (.slice ks1 j kc1) j ys (by simp [Act.eval, Act.put]) HYS.out ⟨w8.heap.size, 0, none⟩ 1 1 [.pointer (some ⟨q8, 0, none⟩)] (by simp [Act.eval, Act.put]) rfl (World.news_of_block (cs := #[.pointer (some ⟨q8, 0, none⟩)]) (blk_alloc_new _ _)) (by intro u hu; simp at hu; subst hu; rfl) (by decide) (by unfold maxLen; omega) (by omega) HZ8.out (w8.heap.size + 1) (by simp) ?_; intro g9 c9 w9 e1 e2 e3 e4; obtain ⟨hSA, ⟨B9, Z9⟩, hSB, uv9, uh9, hPI⟩ := HU9.out g9 c9 w9 e1 e2 e3; have HPN := (show Hid _ from hPI); clear e1 e2 e3 e4 hPI HU9 HYS HZ8; unfold Sc at hSA hSB; dsimp only at B9 Z9 hSB HPN)
                    clear hHeld
                    refine hK.out _ _ hSA (fun hHeld => ?_)
                    clear hK K
                    try simp only [Act.put, List.setIfInBounds_toArray, List.set_cons_zero, List.set_cons_succ]
                    refine wpAnyH_take (i := 14) (oi := o63_11_14) (v := ?v16) rfl (by kernel_rfl) (by kernel_rfl) (by kernel_rfl) (fun _ _ _ h => h) (Or.inl ⟨by rfl, ?h16⟩) hHeld ?r16
                    case h16 => (intro w hSw; (try dsimp only at hSw); go_simp; try with_reducible rfl)
                    try simp only [Act.put, List.setIfInBounds_toArray, List.set_cons_zero, List.set_cons_succ]
                    refine wpAnyH_take (i := 15) (oi := o63_11_15) (v := ?v17) rfl (by kernel_rfl) (by kernel_rfl) (by kernel_rfl) (fun _ _ _ h => h) (Or.inl ⟨by rfl, ?h17⟩) hHeld ?r17
                    case h17 => (intro w hSw; (try dsimp only at hSw); go_simp; try with_reducible rfl)
                    try simp only [Act.put, List.setIfInBounds_toArray, List.set_cons_zero, List.set_cons_succ]
                    refine wpAnyH_ready (rs := [16]) (by kernel_rfl) (by simp) ?_
                    refine (AllReadyH.cons (o := o63_11_16) rfl (fun K hK => ?yc18) AllReadyH.nil)
                    case' yc18 =>
                      go_simp
                      clear hHeld
                      refine hK.out _ _ hSB (fun hHeld => ?_)
                      clear hK K
                      try simp only [Act.put, List.setIfInBounds_toArray, List.set_cons_zero, List.set_cons_succ]
                      refine wpAnyH_done (by kernel_rfl) ?_ _
                      (try refine NoPanic.normal ?_)
                      clear hHeld hS0 hS1
                      go_wp2_with fail
                      exact ⟨⟨j + 1, uv9, uh9, _, by go_num, by omega, HPN⟩, by simp [intOf]; omega⟩
        case' yc9 =>
          go_simp
          clear hHeld
          refine hK.out _ _ hS1 (fun hHeld => ?_)
          clear hK K
          try simp only [Act.put, List.setIfInBounds_toArray, List.set_cons_zero, List.set_cons_succ]
          refine wpAnyH_ready (rs := [4, 10]) (by kernel_rfl) (by simp) ?_
          refine (AllReadyH.cons (o := o63_11_4) rfl (fun K hK => ?yc20) (AllReadyH.cons (o := o63_11_10) rfl (fun K hK => ?yc19) AllReadyH.nil))
          case' yc20 =>
            go_simp
            clear hHeld
            refine hK.out _ _ hS1 (fun hHeld => ?_)
            clear hK K
            try simp only [Act.put, List.setIfInBounds_toArray, List.set_cons_zero, List.set_cons_succ]
            refine wpAnyH_ready (rs := [10]) (by kernel_rfl) (by simp) ?_
            refine (AllReadyH.cons (o := o63_11_10) rfl (fun K hK => ?yc21) AllReadyH.nil)
            case' yc21 =>
              (refine step_append_one _ rfl (.tmp 80) (.tmp 82) 138 rfl B i3 _ 8 Try.underlying138 hi3 hz0 hz1' hz2 rfl (.slice pa pn pc) pn xs (by simp [Act.eval, Act.put]) HO5.out ⟨wr.heap.size + 1, 0, none⟩ 1 (.int .i64 j) (by simp [Act.eval, Act.put]) HU5.out rfl (by unfold maxLen; omega) (by omega) HZ5.out ?_; intro v7 w7 hom; obtain ⟨hS7, K2, hcl⟩ := HUP.out v7 w7 hom; have HCL := (show Hid _ from hcl); obtain ⟨_, ⟨g7, c7, rfl⟩, _⟩ := hom; clear hcl HUP HO5 HU5 HZ5; unfold Sc at hS7; simp only [Tr.val] at HCL)
              clear hHeld
              refine hK.out _ _ hS7 (fun hHeld => ?_)
              clear hK K
              try simp only [Act.put, List.setIfInBounds_toArray, List.set_cons_zero, List.set_cons_succ]
              refine wpAnyH_ready (rs := [11]) (by kernel_rfl) (by simp) ?_
              refine (AllReadyH.cons (o := o63_11_11) rfl (fun K hK => ?yc22) AllReadyH.nil)
              case' yc22 =>
                go_simp
                refine Calls.mono HCL.out ?_
                rintro e w8 ⟨q8, rfl, hp8⟩
                dsimp only
                obtain ⟨hS8, K3, K4, hS9, hZ8, ys, hys, hup⟩ := hp8
                have HYS := (show Hid _ from hys)
                have HZ8 := (show Hid _ from hZ8)
                have HU9 := (show Hid _ from hup)
                clear hys hup hZ8 HCL
                unfold Sc at hS8 hS9
                dsimp only at K3 K4
                clear hHeld
                refine hK.out _ _ hS8 (fun hHeld => ?_)
                clear hK K
                try simp only [Act.put, List.setIfInBounds_toArray, List.set_cons_zero, List.set_cons_succ]
                refine wpAnyH_ready (rs := [12]) (by kernel_rfl) (by simp) ?_
                refine (AllReadyH.cons (o := o63_11_12) rfl (fun K hK => ?yc23) AllReadyH.nil)
                case' yc23 =>
                  go_simp
                  clear hHeld
                  refine hK.out _ _ hS9 (fun hHeld => ?_)
                  clear hK K
                  try simp only [Act.put, List.setIfInBounds_toArray, List.set_cons_zero, List.set_cons_succ]
                  refine wpAnyH_ready (rs := [13]) (by kernel_rfl) (by simp) ?_
                  refine (AllReadyH.cons (o := o63_11_13) rfl (fun K hK => ?yc24) AllReadyH.nil)
                  case' yc24 =>
                    (refine step_append_lies _ rfl (.tmp 77) (.tmp 85) 127 rfl w.heap.size 83 i83 _ 1 8 Try.underlying127 hi83 hx0 hx1 hx2 rfl (by decide) (.slice ks1 j kc1) j ys (by simp [Act.eval, Act.put]) HYS.out ⟨w8.heap.size, 0, none⟩ 1 1 [.pointer (some ⟨q8, 0, none⟩)] (by simp [Act.eval, Act.put]) rfl (World.news_of_block (cs := #[.pointer (some ⟨q8, 0, none⟩)]) (blk_alloc_new _ _)) (by intro u hu; simp at hu; subst hu; rfl) (by decide) (by unfold maxLen; omega) (by omega) HZ8.out (w8.heap.size + 1) (by simp) ?_; intro g9 c9 w9 e1 e2 e3 e4; obtain ⟨hSA, ⟨B9, Z9⟩, hSB, uv9, uh9, hPI⟩ := HU9.out g9 c9 w9 e1 e2 e3; have HPN := (show Hid _ from hPI); clear e1 e2 e3 e4 hPI HU9 HYS HZ8; unfold Sc at hSA hSB; dsimp only at B9 Z9 hSB HPN)
                    clear hHeld
                    refine hK.out _ _ hSA (fun hHeld => ?_)
                    clear hK K
                    try simp only [Act.put, List.setIfInBounds_toArray, List.set_cons_zero, List.set_cons_succ]
                    refine wpAnyH_take (i := 14) (oi := o63_11_14) (v := ?v25) rfl (by kernel_rfl) (by kernel_rfl) (by kernel_rfl) (fun _ _ _ h => h) (Or.inl ⟨by rfl, ?h25⟩) hHeld ?r25
                    case h25 => (intro w hSw; (try dsimp only at hSw); go_simp; try with_reducible rfl)
                    try simp only [Act.put, List.setIfInBounds_toArray, List.set_cons_zero, List.set_cons_succ]
                    refine wpAnyH_take (i := 15) (oi := o63_11_15) (v := ?v26) rfl (by kernel_rfl) (by kernel_rfl) (by kernel_rfl) (fun _ _ _ h => h) (Or.inl ⟨by rfl, ?h26⟩) hHeld ?r26
                    case h26 => (intro w hSw; (try dsimp only at hSw); go_simp; try with_reducible rfl)
                    try simp only [Act.put, List.setIfInBounds_toArray, List.set_cons_zero, List.set_cons_succ]
                    refine wpAnyH_ready (rs := [16]) (by kernel_rfl) (by simp) ?_
                    refine (AllReadyH.cons (o := o63_11_16) rfl (fun K hK => ?yc27) AllReadyH.nil)
                    case' yc27 =>
                      go_simp
                      clear hHeld
                      refine hK.out _ _ hSB (fun hHeld => ?_)
                      clear hK K
                      try simp only [Act.put, List.setIfInBounds_toArray, List.set_cons_zero, List.set_cons_succ]
                      refine wpAnyH_done (by kernel_rfl) ?_ _
                      (try refine NoPanic.normal ?_)
                      clear hHeld hS0 hS1
                      go_wp2_with fail
                      exact ⟨⟨j + 1, uv9, uh9, _, by go_num, by omega, HPN⟩, by simp [intOf]; omega⟩
          case' yc19 =>
            (refine step_append_one _ rfl (.tmp 80) (.tmp 82) 138 rfl B i3 _ 8 Try.underlying138 hi3 hz0 hz1' hz2 rfl (.slice pa pn pc) pn xs (by simp [Act.eval, Act.put]) HO5.out ⟨wr.heap.size + 1, 0, none⟩ 1 (.int .i64 j) (by simp [Act.eval, Act.put]) HU5.out rfl (by unfold maxLen; omega) (by omega) HZ5.out ?_; intro v7 w7 hom; obtain ⟨hS7, K2, hcl⟩ := HUP.out v7 w7 hom; have HCL := (show Hid _ from hcl); obtain ⟨_, ⟨g7, c7, rfl⟩, _⟩ := hom; clear hcl HUP HO5 HU5 HZ5; unfold Sc at hS7; simp only [Tr.val] at HCL)
            clear hHeld
            refine hK.out _ _ hS7 (fun hHeld => ?_)
            clear hK K
            try simp only [Act.put, List.setIfInBounds_toArray, List.set_cons_zero, List.set_cons_succ]
            refine wpAnyH_ready (rs := [4, 11]) (by kernel_rfl) (by simp) ?_
            refine (AllReadyH.cons (o := o63_11_4) rfl (fun K hK => ?yc29) (AllReadyH.cons (o := o63_11_11) rfl (fun K hK => ?yc28) AllReadyH.nil))
            case' yc29 =>
              go_simp
              clear hHeld
              refine hK.out _ _ hS7 (fun hHeld => ?_)
              clear hK K
              try simp only [Act.put, List.setIfInBounds_toArray, List.set_cons_zero, List.set_cons_succ]
              refine wpAnyH_ready (rs := [11]) (by kernel_rfl) (by simp) ?_
              refine (AllReadyH.cons (o := o63_11_11) rfl (fun K hK => ?yc30) AllReadyH.nil)
              case' yc30 =>
                go_simp
                refine Calls.mono HCL.out ?_
                rintro e w8 ⟨q8, rfl, hp8⟩
                dsimp only
                obtain ⟨hS8, K3, K4, hS9, hZ8, ys, hys, hup⟩ := hp8
                have HYS := (show Hid _ from hys)
                have HZ8 := (show Hid _ from hZ8)
                have HU9 := (show Hid _ from hup)
                clear hys hup hZ8 HCL
                unfold Sc at hS8 hS9
                dsimp only at K3 K4
                clear hHeld
                refine hK.out _ _ hS8 (fun hHeld => ?_)
                clear hK K
                try simp only [Act.put, List.setIfInBounds_toArray, List.set_cons_zero, List.set_cons_succ]
                refine wpAnyH_ready (rs := [12]) (by kernel_rfl) (by simp) ?_
                refine (AllReadyH.cons (o := o63_11_12) rfl (fun K hK => ?yc31) AllReadyH.nil)
                case' yc31 =>
                  go_simp
                  clear hHeld
                  refine hK.out _ _ hS9 (fun hHeld => ?_)
                  clear hK K
                  try simp only [Act.put, List.setIfInBounds_toArray, List.set_cons_zero, List.set_cons_succ]
                  refine wpAnyH_ready (rs := [13]) (by kernel_rfl) (by simp) ?_
                  refine (AllReadyH.cons (o := o63_11_13) rfl (fun K hK => ?yc32) AllReadyH.nil)
                  case' yc32 =>
                    (refine step_append_lies _ rfl (.tmp 77) (.tmp 85) 127 rfl w.heap.size 83 i83 _ 1 8 Try.underlying127 hi83 hx0 hx1 hx2 rfl (by decide) (.slice ks1 j kc1) j ys (by simp [Act.eval, Act.put]) HYS.out ⟨w8.heap.size, 0, none⟩ 1 1 [.pointer (some ⟨q8, 0, none⟩)] (by simp [Act.eval, Act.put]) rfl (World.news_of_block (cs := #[.pointer (some ⟨q8, 0, none⟩)]) (blk_alloc_new _ _)) (by intro u hu; simp at hu; subst hu; rfl) (by decide) (by unfold maxLen; omega) (by omega) HZ8.out (w8.heap.size + 1) (by simp) ?_; intro g9 c9 w9 e1 e2 e3 e4; obtain ⟨hSA, ⟨B9, Z9⟩, hSB, uv9, uh9, hPI⟩ := HU9.out g9 c9 w9 e1 e2 e3; have HPN := (show Hid _ from hPI); clear e1 e2 e3 e4 hPI HU9 HYS HZ8; unfold Sc at hSA hSB; dsimp only at B9 Z9 hSB HPN)
                    clear hHeld
                    refine hK.out _ _ hSA (fun hHeld => ?_)
                    clear hK K
                    try simp only [Act.put, List.setIfInBounds_toArray, List.set_cons_zero, List.set_cons_succ]
                    refine wpAnyH_take (i := 14) (oi := o63_11_14) (v := ?v33) rfl (by kernel_rfl) (by kernel_rfl) (by kernel_rfl) (fun _ _ _ h => h) (Or.inl ⟨by rfl, ?h33⟩) hHeld ?r33
                    case h33 => (intro w hSw; (try dsimp only at hSw); go_simp; try with_reducible rfl)
                    try simp only [Act.put, List.setIfInBounds_toArray, List.set_cons_zero, List.set_cons_succ]
                    refine wpAnyH_take (i := 15) (oi := o63_11_15) (v := ?v34) rfl (by kernel_rfl) (by kernel_rfl) (by kernel_rfl) (fun _ _ _ h => h) (Or.inl ⟨by rfl, ?h34⟩) hHeld ?r34
                    case h34 => (intro w hSw; (try dsimp only at hSw); go_simp; try with_reducible rfl)
                    try simp only [Act.put, List.setIfInBounds_toArray, List.set_cons_zero, List.set_cons_succ]
                    refine wpAnyH_ready (rs := [16]) (by kernel_rfl) (by simp) ?_
                    refine (AllReadyH.cons (o := o63_11_16) rfl (fun K hK => ?yc35) AllReadyH.nil)
                    case' yc35 =>
                      go_simp
                      clear hHeld
                      refine hK.out _ _ hSB (fun hHeld => ?_)
                      clear hK K
                      try simp only [Act.put, List.setIfInBounds_toArray, List.set_cons_zero, List.set_cons_succ]
                      refine wpAnyH_done (by kernel_rfl) ?_ _
                      (try refine NoPanic.normal ?_)
                      clear hHeld hS0 hS1
                      go_wp2_with fail
                      exact ⟨⟨j + 1, uv9, uh9, _, by go_num, by omega, HPN⟩, by simp [intOf]; omega⟩
            case' yc28 =>
              go_simp
              refine Calls.mono HCL.out ?_
              rintro e w8 ⟨q8, rfl, hp8⟩
              dsimp only
              obtain ⟨hS8, K3, K4, hS9, hZ8, ys, hys, hup⟩ := hp8
              have HYS := (show Hid _ from hys)
              have HZ8 := (show Hid _ from hZ8)
              have HU9 := (show Hid _ from hup)
              clear hys hup hZ8 HCL
              unfold Sc at hS8 hS9
              dsimp only at K3 K4
              clear hHeld
              refine hK.out _ _ hS8 (fun hHeld => ?_)
              clear hK K
              try simp only [Act.put, List.setIfInBounds_toArray, List.set_cons_zero, List.set_cons_succ]
              refine wpAnyH_ready (rs := [4, 12]) (by kernel_rfl) (by simp) ?_
              refine (AllReadyH.cons (o := o63_11_4) rfl (fun K hK => ?yc37) (AllReadyH.cons (o := o63_11_12) rfl (fun K hK => ?yc36) AllReadyH.nil))
              case' yc37 =>
                go_simp
                clear hHeld
                refine hK.out _ _ hS8 (fun hHeld => ?_)
                clear hK K
                try simp only [Act.put, List.setIfInBounds_toArray, List.set_cons_zero, List.set_cons_succ]
                refine wpAnyH_ready (rs := [12]) (by kernel_rfl) (by simp) ?_
                refine (AllReadyH.cons (o := o63_11_12) rfl (fun K hK => ?yc38) AllReadyH.nil)
                case' yc38 =>
                  go_simp
                  clear hHeld
                  refine hK.out _ _ hS9 (fun hHeld => ?_)
                  clear hK K
                  try simp only [Act.put, List.setIfInBounds_toArray, List.set_cons_zero, List.set_cons_succ]
                  refine wpAnyH_ready (rs := [13]) (by kernel_rfl) (by simp) ?_
                  refine (AllReadyH.cons (o := o63_11_13) rfl (fun K hK => ?yc39) AllReadyH.nil)
                  case' yc39 =>
                    (refine step_append_lies _ rfl (.tmp 77) (.tmp 85) 127 rfl w.heap.size 83 i83 _ 1 8 Try.underlying127 hi83 hx0 hx1 hx2 rfl (by decide) (.slice ks1 j kc1) j ys (by simp [Act.eval, Act.put]) HYS.out ⟨w8.heap.size, 0, none⟩ 1 1 [.pointer (some ⟨q8, 0, none⟩)] (by simp [Act.eval, Act.put]) rfl (World.news_of_block (cs := #[.pointer (some ⟨q8, 0, none⟩)]) (blk_alloc_new _ _)) (by intro u hu; simp at hu; subst hu; rfl) (by decide) (by unfold maxLen; omega) (by omega) HZ8.out (w8.heap.size + 1) (by simp) ?_; intro g9 c9 w9 e1 e2 e3 e4; obtain ⟨hSA, ⟨B9, Z9⟩, hSB, uv9, uh9, hPI⟩ := HU9.out g9 c9 w9 e1 e2 e3; have HPN := (show Hid _ from hPI); clear e1 e2 e3 e4 hPI HU9 HYS HZ8; unfold Sc at hSA hSB; dsimp only at B9 Z9 hSB HPN)
                    clear hHeld
                    refine hK.out _ _ hSA (fun hHeld => ?_)
                    clear hK K
                    try simp only [Act.put, List.setIfInBounds_toArray, List.set_cons_zero, List.set_cons_succ]
                    refine wpAnyH_take (i := 14) (oi := o63_11_14) (v := ?v40) rfl (by kernel_rfl) (by kernel_rfl) (by kernel_rfl) (fun _ _ _ h => h) (Or.inl ⟨by rfl, ?h40⟩) hHeld ?r40
                    case h40 => (intro w hSw; (try dsimp only at hSw); go_simp; try with_reducible rfl)
                    try simp only [Act.put, List.setIfInBounds_toArray, List.set_cons_zero, List.set_cons_succ]
                    refine wpAnyH_take (i := 15) (oi := o63_11_15) (v := ?v41) rfl (by kernel_rfl) (by kernel_rfl) (by kernel_rfl) (fun _ _ _ h => h) (Or.inl ⟨by rfl, ?h41⟩) hHeld ?r41
                    case h41 => (intro w hSw; (try dsimp only at hSw); go_simp; try with_reducible rfl)
                    try simp only [Act.put, List.setIfInBounds_toArray, List.set_cons_zero, List.set_cons_succ]
                    refine wpAnyH_ready (rs := [16]) (by kernel_rfl) (by simp) ?_
                    refine (AllReadyH.cons (o := o63_11_16) rfl (fun K hK => ?yc42) AllReadyH.nil)
                    case' yc42 =>
                      go_simp
                      clear hHeld
                      refine hK.out _ _ hSB (fun hHeld => ?_)
                      clear hK K
                      try simp only [Act.put, List.setIfInBounds_toArray, List.set_cons_zero, List.set_cons_succ]
                      refine wpAnyH_done (by kernel_rfl) ?_ _
                      (try refine NoPanic.normal ?_)
                      clear hHeld hS0 hS1
                      go_wp2_with fail
                      exact ⟨⟨j + 1, uv9, uh9, _, by go_num, by omega, HPN⟩, by simp [intOf]; omega⟩
              case' yc36 =>
                go_simp
                clear hHeld
                refine hK.out _ _ hS9 (fun hHeld => ?_)
                clear hK K
                try simp only [Act.put, List.setIfInBounds_toArray, List.set_cons_zero, List.set_cons_succ]
                refine wpAnyH_ready (rs := [4]) (by kernel_rfl) (by simp) ?_
                refine (AllReadyH.cons (o := o63_11_4) rfl (fun K hK => ?yc43) AllReadyH.nil)
                case' yc43 =>
                  go_simp
                  clear hHeld
                  refine hK.out _ _ hS9 (fun hHeld => ?_)
                  clear hK K
                  try simp only [Act.put, List.setIfInBounds_toArray, List.set_cons_zero, List.set_cons_succ]
                  refine wpAnyH_ready (rs := [13]) (by kernel_rfl) (by simp) ?_
                  refine (AllReadyH.cons (o := o63_11_13) rfl (fun K hK => ?yc44) AllReadyH.nil)
                  case' yc44 =>
                    (refine step_append_lies _ rfl (.tmp 77) (.tmp 85) 127 rfl w.heap.size 83 i83 _ 1 8 Try.underlying127 hi83 hx0 hx1 hx2 rfl (by decide) (.slice ks1 j kc1) j ys (by simp [Act.eval, Act.put]) HYS.out ⟨w8.heap.size, 0, none⟩ 1 1 [.pointer (some ⟨q8, 0, none⟩)] (by simp [Act.eval, Act.put]) rfl (World.news_of_block (cs := #[.pointer (some ⟨q8, 0, none⟩)]) (blk_alloc_new _ _)) (by intro u hu; simp at hu; subst hu; rfl) (by decide) (by unfold maxLen; omega) (by omega) HZ8.out (w8.heap.size + 1) (by simp) ?_; intro g9 c9 w9 e1 e2 e3 e4; obtain ⟨hSA, ⟨B9, Z9⟩, hSB, uv9, uh9, hPI⟩ := HU9.out g9 c9 w9 e1 e2 e3; have HPN := (show Hid _ from hPI); clear e1 e2 e3 e4 hPI HU9 HYS HZ8; unfold Sc at hSA hSB; dsimp only at B9 Z9 hSB HPN)
                    clear hHeld
                    refine hK.out _ _ hSA (fun hHeld => ?_)
                    clear hK K
                    try simp only [Act.put, List.setIfInBounds_toArray, List.set_cons_zero, List.set_cons_succ]
                    refine wpAnyH_take (i := 14) (oi := o63_11_14) (v := ?v45) rfl (by kernel_rfl) (by kernel_rfl) (by kernel_rfl) (fun _ _ _ h => h) (Or.inl ⟨by rfl, ?h45⟩) hHeld ?r45
                    case h45 => (intro w hSw; (try dsimp only at hSw); go_simp; try with_reducible rfl)
                    try simp only [Act.put, List.setIfInBounds_toArray, List.set_cons_zero, List.set_cons_succ]
                    refine wpAnyH_take (i := 15) (oi := o63_11_15) (v := ?v46) rfl (by kernel_rfl) (by kernel_rfl) (by kernel_rfl) (fun _ _ _ h => h) (Or.inl ⟨by rfl, ?h46⟩) hHeld ?r46
                    case h46 => (intro w hSw; (try dsimp only at hSw); go_simp; try with_reducible rfl)
                    try simp only [Act.put, List.setIfInBounds_toArray, List.set_cons_zero, List.set_cons_succ]
                    refine wpAnyH_ready (rs := [16]) (by kernel_rfl) (by simp) ?_
                    refine (AllReadyH.cons (o := o63_11_16) rfl (fun K hK => ?yc47) AllReadyH.nil)
                    case' yc47 =>
                      go_simp
                      clear hHeld
                      refine hK.out _ _ hSB (fun hHeld => ?_)
                      clear hK K
                      try simp only [Act.put, List.setIfInBounds_toArray, List.set_cons_zero, List.set_cons_succ]
                      refine wpAnyH_done (by kernel_rfl) ?_ _
                      (try refine NoPanic.normal ?_)
                      clear hHeld hS0 hS1
                      go_wp2_with fail
                      exact ⟨⟨j + 1, uv9, uh9, _, by go_num, by omega, HPN⟩, by simp [intOf]; omega⟩
      · have i1 : ¬ ((j : Int) < (k.length : Int)) := by omega
        have hje : j = k.length := by omega
        subst hje
        have HE := (show Hid _ from HFIN.out w1 uvj uhj kvj wr hz1 HP.out)
        clear HP HFIN HTB
        go_wp2_with fail
        go_ret
        exact HE.out
  | true =>
    cases q1 : (n.toList == [72, 111, 108, 101])
    · have HHO := (show Hid (hoB n true = false) from by show hoB n true = _; unfold hoB; rw [← eqS_hol, q1]; rfl)
      cases q2 : (n.toList == [86, 97, 114])
      · cases q3 : (n.toList == [86, 97, 108])
        · have HV6 := (show Hid (v6B n true = false) from by show v6B n true = _; unfold v6B; rw [← eqS_var, ← eqS_val, q2, q3]; rfl)
          have HHD := (show Hid _ from head72 n x true (.slice a k.length cap) (w.alloc (.cells #[.string n, .string x, .bool true, .slice a k.length cap] 42)) rfl)
          have HXB := (show Hid (∀ w1 : World, PB (⟨B, b, m, ks, hn, f, uv, (.slice ha' hn hac), (.slice pa pn pc), pn, xs, w, n, x, true, .slice a k.length cap, w1.heap.size⟩ : PX)) from fun w1 => ⟨HR.out, HPW.out, HPD.out, HON.out, HBB.out⟩)
          have HST := (show Hid (∀ w1 : World, Below (w.alloc (.cells #[.string n, .string x, .bool true, .slice a k.length cap] 42)).heap.size (w.alloc (.cells #[.string n, .string x, .bool true, .slice a k.length cap] 42)) w1 → (w1.alloc (.cells #[.string n, .string x, .bool true, .int .i64 0, .int .i64 0, .slice none 0 0] 129)).cell? ⟨w.heap.size, 3, none⟩ = some (.slice a k.length cap) ∧ PI (⟨B, b, m, ks, hn, f, uv, (.slice ha' hn hac), (.slice pa pn pc), pn, xs, w, n, x, true, .slice a k.length cap, w1.heap.size⟩ : PX) k 0 uv (.slice ha' hn hac) (.slice none 0 0) (w1.alloc (.cells #[.string n, .string x, .bool true, .int .i64 0, .int .i64 0, .slice none 0 0] 129))) from fun w1 hb1 => by
            have hz0 : (w.alloc (.cells #[.string n, .string x, .bool true, .slice a k.length cap] 42)).heap.size = w.heap.size + 1 := by simp
            have hz1 := hb1.size
            have hbw : Below w.heap.size w (w1.alloc (.cells #[.string n, .string x, .bool true, .int .i64 0, .int .i64 0, .slice none 0 0] 129)) := bel_trans (bel_trans (bel_alloc w (.cells #[.string n, .string x, .bool true, .slice a k.length cap] 42)) hb1) (bel_alloc _ _)
            have bt : Box (w1.alloc (.cells #[.string n, .string x, .bool true, .int .i64 0, .int .i64 0, .slice none 0 0] 129)) w.heap.size 42 [.string n, .string x, .bool true, .slice a k.length cap] := ((Box.new w 42 _).still hb1).still (bel_alloc _ _)
            refine ⟨bt.cell 3 (by simp), ?_⟩
            refine ⟨?_, Fm.of_below hbw, own_still HPW.out hbw, At1.refl _ _, At1.refl _ _, bt, Box.new w1 129 _, ⟨[], own_nil _ _ _ _⟩, ?_, ⟨fun e => ?_, fun e => ?_⟩, ⟨fun e => ?_, fun e => ?_⟩, fun q hq => by cases hq⟩
            · have r := HR.out.still hbw
              simpa [pvK, phL] using r
            · show w.heap.size < w1.heap.size; omega
            · have := (HR.out.uvl _ e).2; dsimp only at this; omega
            · have := (HR.out.uvl _ e).2; dsimp only at this; omega
            · have := (HR.out.uhl _ e).2; dsimp only at this; omega
            · have := (HR.out.uhl _ e).2; dsimp only at this; omega)
          have HTB := (show Hid (∀ (w1 : World) (j : Nat) (uvj uhj kvj : Value) (wr : World), PI (⟨B, b, m, ks, hn, f, uv, (.slice ha' hn hac), (.slice pa pn pc), pn, xs, w, n, x, true, .slice a k.length cap, w1.heap.size⟩ : PX) k j uvj uhj kvj wr → Below B w wr) from fun w1 j uvj uhj kvj wr h => h.fm.below (by
            rintro q (e | e | e | e | e)
            · rw [e]; exact HR.out.hb
            · rw [e]; exact HR.out.hm
            · exact (HR.out.uvl q e).1
            · exact (HR.out.uhl q e).1
            · exact (World.ownsRow.lt HPW.out q e).1) HBB.out)
          have HFIN := (show Hid (∀ (w1 : World) (uvj uhj kvj : Value) (wr : World), w.heap.size ≤ w1.heap.size → PI (⟨B, b, m, ks, hn, f, uv, (.slice ha' hn hac), (.slice pa pn pc), pn, xs, w, n, x, true, .slice a k.length cap, w1.heap.size⟩ : PX) k k.length uvj uhj kvj wr → PaA B b m ks hn f uv (.slice ha' hn hac) (.slice pa pn pc) pn xs ⟨n, x, true, k⟩ w (.returned (.pointer (some ⟨w1.heap.size, 0, none⟩))) wr) from fun w1 uvj uhj kvj wr hz h => by
            refine ⟨w1.heap.size, uvj, uhj, n, x, true, 0, kvj, rfl, hz, ?_, ?_, h.fm, h.pw, h.a1, h.a2, h.d1.1, h.d2.1⟩
            · have e : kd n true = 0 := by unfold kd; rw [if_neg (by rw [HHO.out]; simp), if_neg (by rw [HV6.out]; simp)]
              dsimp only
              rw [e]
              exact h.bp
            · have r := h.rs
              rw [List.take_length] at r
              rw [pv_mk, ph_mk, pf_mk, if_neg (by rw [HHO.out]; simp), if_neg (by rw [HV6.out]; simp), if_neg (by rw [HHO.out]; simp), if_neg (by rw [HV6.out]; simp), if_neg (by rw [HHO.out]; simp), if_neg (by rw [HV6.out]; simp)]
              exact r)
          go_enter Try.func63, Try.ntmps63
          go_wp2_with fail
          refine Calls.mono HHD.out ?_
          rintro e w1 ⟨rfl, hb1⟩
          obtain ⟨T3, hPI⟩ := HST.out w1 hb1
          have HP0 := (show Hid _ from hPI)
          have hz1 : w.heap.size ≤ w1.heap.size := by have := hb1.size; simp at this; omega
          clear hb1 hPI HST HHD
          go_wp2_with fail
          go_loopw [68] (fun i wr => ∃ (j : Nat) (uvj uhj kvj : Value), i = .int .i64 j ∧ j ≤ k.length ∧ Hid (PI (⟨B, b, m, ks, hn, f, uv, (.slice ha' hn hac), (.slice pa pn pc), pn, xs, w, n, x, true, .slice a k.length cap, w1.heap.size⟩ : PX) k j uvj uhj kvj wr)) (fun i _ => k.length - (intOf i).toNat)
          case atStart => exact ⟨0, uv, (.slice ha' hn hac), .slice none 0 0, rfl, Nat.zero_le _, HP0⟩
          case round =>
            obtain ⟨j, uvj, uhj, kvj, rfl, hj, HP⟩ := hrel
            clear HP0 T3
            by_cases hlt : j < k.length
            · have i1 : (j : Int) < (k.length : Int) := by omega
              have i0 : (0 : Int) ≤ (j : Int) := by omega
              have hbel := HTB.out w1 j uvj uhj kvj wr HP.out
              obtain ⟨rfl, hSb⟩ := HA.out (by omega)
              obtain ⟨d0, d1, d2, d3⟩ := HC.out j hlt
              rw [← hbel.cell (show b' < B from hSb)] at d0 d1 d2 d3
              obtain ⟨s1, s2, s3, ep⟩ := (HK.out j hlt).form
              have hlj := HK.out j hlt
              rw [ep] at d3 hlj
              have HUP := (show Hid _ from pi_up (HXB.out w1) hlt HP.out (HI.out j hlt (.slice s1 s2 s3)) hlj (by show ks.length + Tr.cntL k + 1 ≤ 100000; omega) (by show hn + Tr.cntL k + 1 ≤ 100000; omega) (by show pn + Tr.deepL k + 1 ≤ 100000; omega))
              have hpl : w1.heap.size < wr.heap.size := HP.out.bp.lt
              obtain ⟨ks1, kc1, rfl⟩ : ∃ a c, kvj = .slice a j c := by
                obtain ⟨ys, hys⟩ := HP.out.kr
                obtain ⟨a, c, e, _⟩ := own_ne hys
                exact ⟨a, c, e⟩
              have K0 : (wK wr k[j] (.slice s1 s2 s3)).cell? ⟨w1.heap.size, 5, none⟩ = some (.slice ks1 j kc1) := (HP.out.bp.still (((bel_alloc wr _).drew))).cell 5 (by simp)
              have K1 : (wP wr k[j] (.slice s1 s2 s3) j).cell? ⟨w1.heap.size, 5, none⟩ = some (.slice ks1 j kc1) := ((HP.out.bp.still (((bel_alloc wr _).drew))).still (bel_alloc _ _)).cell 5 (by simp)
              have K1a : ((wr.alloc (.cells #[.string k[j].name, .string k[j].text, .bool k[j].leaf, .slice s1 s2 s3] 42)).alloc (.cells #[.int .i64 (j : Int)] 3)).drew.cell? ⟨w1.heap.size, 5, none⟩ = some (.slice ks1 j kc1) := ((HP.out.bp.still (bel_alloc wr _)).still ((bel_alloc _ _).drew)).cell 5 (by simp)
              have K1b : ((wr.alloc (.cells #[.string k[j].name, .string k[j].text, .bool k[j].leaf, .slice s1 s2 s3] 42)).alloc (.cells #[.int .i64 (j : Int)] 3)).cell? ⟨w1.heap.size, 5, none⟩ = some (.slice ks1 j kc1) := ((HP.out.bp.still (bel_alloc wr _)).still (bel_alloc _ _)).cell 5 (by simp)
              have hS0 : Sc wr.heap.size k[j] (.slice s1 s2 s3) (wK wr k[j] (.slice s1 s2 s3)) := sc_box ((Box.new wr 42 [.string k[j].name, .string k[j].text, .bool k[j].leaf, .slice s1 s2 s3]).still ((Below.refl _ _).drew))
              have hS1 : Sc wr.heap.size k[j] (.slice s1 s2 s3) (wP wr k[j] (.slice s1 s2 s3) j) := sc_box (((Box.new wr 42 [.string k[j].name, .string k[j].text, .bool k[j].leaf, .slice s1 s2 s3]).still ((Below.refl _ _).drew)).still (bel_alloc _ _))
              have HO5 := (show Hid ((wP wr k[j] (.slice s1 s2 s3) j).ownsRow B 3 1 (.slice pa pn pc) pn xs) from own_still (own_still HP.out.pw ((bel_alloc wr _).drew)) (bel_alloc _ _))
              have HU5 := (show Hid ((wP wr k[j] (.slice s1 s2 s3) j).cell? ⟨wr.heap.size + 1, 0, none⟩ = some (.int .i64 j)) from (by
                have h := (Box.new (wK wr k[j] (.slice s1 s2 s3)) 3 [.int .i64 (j : Int)]).cell 0 (by simp)
                have e : (wK wr k[j] (.slice s1 s2 s3)).heap.size = wr.heap.size + 1 := by simp
                rw [e] at h
                exact h))
              have HZ5 := (show Hid (B ≤ (wP wr k[j] (.slice s1 s2 s3) j).heap.size) from (by have := HBB.out; have := HP.out.fm.size; show B ≤ _; simp; omega))
              have hjs : j ≤ 100000 := by
                have h1' : k.length ≤ Tr.cntL k := HKL.out
                omega
              clear hbel ep hlj HP HTB
              dsimp only [wK, wP, kidB] at K0 K1 HO5 HU5 HZ5 hS0 hS1 HUP
              unfold Sc at hS0 hS1
              go_wp2_with fail
              refine wp_region_held_drew (S := (fun wq => wq.cell? ⟨wr.heap.size, 0, none⟩ = some (.string k[j].name) ∧ wq.cell? ⟨wr.heap.size, 1, none⟩ = some (.string k[j].text) ∧ wq.cell? ⟨wr.heap.size, 2, none⟩ = some (.bool k[j].leaf) ∧ wq.cell? ⟨wr.heap.size, 3, none⟩ = some (.slice s1 s2 s3))) (by kernel_rfl) hS0 (fun hHeld => ?_)
              refine wpAnyH_take (i := 0) (oi := o63_11_0) (v := ?v48) rfl (by kernel_rfl) (by kernel_rfl) (by kernel_rfl) (fun _ _ _ h => h) (Or.inl ⟨by rfl, ?h48⟩) hHeld ?r48
              case h48 => (intro w hSw; (try dsimp only at hSw); go_simp; try with_reducible rfl)
              try simp only [Act.put, List.setIfInBounds_toArray, List.set_cons_zero, List.set_cons_succ]
              refine wpAnyH_take (i := 1) (oi := o63_11_1) (v := ?v49) rfl (by kernel_rfl) (by kernel_rfl) (by kernel_rfl) (fun _ _ _ h => h) (Or.inl ⟨by rfl, ?h49⟩) hHeld ?r49
              case h49 => (intro w hSw; (try dsimp only at hSw); go_simp; try with_reducible rfl)
              try simp only [Act.put, List.setIfInBounds_toArray, List.set_cons_zero, List.set_cons_succ]
              refine wpAnyH_take (i := 2) (oi := o63_11_2) (v := ?v50) rfl (by kernel_rfl) (by kernel_rfl) (by kernel_rfl) (fun _ _ _ h => h) (Or.inl ⟨by rfl, ?h50⟩) hHeld ?r50
              case h50 => (intro w hSw; (try dsimp only at hSw); go_simp; try with_reducible rfl)
              try simp only [Act.put, List.setIfInBounds_toArray, List.set_cons_zero, List.set_cons_succ]
              refine wpAnyH_take (i := 3) (oi := o63_11_3) (v := ?v51) rfl (by kernel_rfl) (by kernel_rfl) (by kernel_rfl) (fun _ _ _ h => h) (Or.inl ⟨by rfl, ?h51⟩) hHeld ?r51
              case h51 => (intro w hSw; (try dsimp only at hSw); go_simp; try with_reducible rfl)
              try simp only [Act.put, List.setIfInBounds_toArray, List.set_cons_zero, List.set_cons_succ]
              refine wpAnyH_take (i := 5) (oi := o63_11_5) (v := ?v52) rfl (by kernel_rfl) (by kernel_rfl) (by kernel_rfl) (fun _ _ _ h => h) (Or.inl ⟨by rfl, ?h52⟩) hHeld ?r52
              case h52 => (intro w hSw; (try dsimp only at hSw); go_simp; try with_reducible rfl)
              try simp only [Act.put, List.setIfInBounds_toArray, List.set_cons_zero, List.set_cons_succ]
              refine wpAnyH_take (i := 6) (oi := o63_11_6) (v := ?v53) rfl (by kernel_rfl) (by kernel_rfl) (by kernel_rfl) (fun _ _ _ h => h) (Or.inl ⟨by rfl, ?h53⟩) hHeld ?r53
              case h53 => (intro w hSw; (try dsimp only at hSw); go_simp; try with_reducible rfl)
              try simp only [Act.put, List.setIfInBounds_toArray, List.set_cons_zero, List.set_cons_succ]
              refine wpAnyH_take (i := 7) (oi := o63_11_7) (v := ?v54) rfl (by kernel_rfl) (by kernel_rfl) (by kernel_rfl) (fun _ _ _ h => h) (Or.inl ⟨by rfl, ?h54⟩) hHeld ?r54
              case h54 => (intro w hSw; (try dsimp only at hSw); go_simp; try with_reducible rfl)
              try simp only [Act.put, List.setIfInBounds_toArray, List.set_cons_zero, List.set_cons_succ]
              refine wpAnyH_take (i := 8) (oi := o63_11_8) (v := ?v55) rfl (by kernel_rfl) (by kernel_rfl) (by kernel_rfl) (fun _ _ _ h => h) (Or.inl ⟨by rfl, ?h55⟩) hHeld ?r55
              case h55 => (intro w hSw; (try dsimp only at hSw); go_simp; try with_reducible rfl)
              try simp only [Act.put, List.setIfInBounds_toArray, List.set_cons_zero, List.set_cons_succ]
              refine wpAnyH_ready (rs := [4, 9]) (by kernel_rfl) (by simp) ?_
              refine (AllReadyH.cons (o := o63_11_4) rfl (fun K hK => ?yc57) (AllReadyH.cons (o := o63_11_9) rfl (fun K hK => ?yc56) AllReadyH.nil))
              case' yc57 =>
                go_simp
                clear hHeld
                refine hK.out _ _ hS0 (fun hHeld => ?_)
                clear hK K
                try simp only [Act.put, List.setIfInBounds_toArray, List.set_cons_zero, List.set_cons_succ]
                refine wpAnyH_ready (rs := [9]) (by kernel_rfl) (by simp) ?_
                refine (AllReadyH.cons (o := o63_11_9) rfl (fun K hK => ?yc58) AllReadyH.nil)
                case' yc58 =>
                  go_simp
                  clear hHeld
                  refine hK.out _ _ hS1 (fun hHeld => ?_)
                  clear hK K
                  try simp only [Act.put, List.setIfInBounds_toArray, List.set_cons_zero, List.set_cons_succ]
                  refine wpAnyH_ready (rs := [10]) (by kernel_rfl) (by simp) ?_
                  refine (AllReadyH.cons (o := o63_11_10) rfl (fun K hK => ?yc59) AllReadyH.nil)
                  case' yc59 =>
                    (refine step_append_one _ rfl (.tmp 80) (.tmp 82) 138 rfl B i3 _ 8 Try.underlying138 hi3 hz0 hz1' hz2 rfl (.slice pa pn pc) pn xs (by simp [Act.eval, Act.put]) HO5.out ⟨wr.heap.size + 1, 0, none⟩ 1 (.int .i64 j) (by simp [Act.eval, Act.put]) HU5.out rfl (by unfold maxLen; omega) (by omega) HZ5.out ?_; intro v7 w7 hom; obtain ⟨hS7, K2, hcl⟩ := HUP.out v7 w7 hom; have HCL := (show Hid _ from hcl); obtain ⟨_, ⟨g7, c7, rfl⟩, _⟩ := hom; clear hcl HUP HO5 HU5 HZ5; unfold Sc at hS7; simp only [Tr.val] at HCL)
                    clear hHeld
                    refine hK.out _ _ hS7 (fun hHeld => ?_)
                    clear hK K
                    try simp only [Act.put, List.setIfInBounds_toArray, List.set_cons_zero, List.set_cons_succ]
                    refine wpAnyH_ready (rs := [11]) (by kernel_rfl) (by simp) ?_
                    refine (AllReadyH.cons (o := o63_11_11) rfl (fun K hK => ?yc60) AllReadyH.nil)
                    case' yc60 =>
                      go_simp
                      refine Calls.mono HCL.out ?_
                      rintro e w8 ⟨q8, rfl, hp8⟩
                      dsimp only
                      obtain ⟨hS8, K3, K4, hS9, hZ8, ys, hys, hup⟩ := hp8
                      have HYS := (show Hid _ from hys)
                      have HZ8 := (show Hid _ from hZ8)
                      have HU9 := (show Hid _ from hup)
                      clear hys hup hZ8 HCL
                      unfold Sc at hS8 hS9
                      dsimp only at K3 K4
                      clear hHeld
                      refine hK.out _ _ hS8 (fun hHeld => ?_)
                      clear hK K
                      try simp only [Act.put, List.setIfInBounds_toArray, List.set_cons_zero, List.set_cons_succ]
                      refine wpAnyH_ready (rs := [12]) (by kernel_rfl) (by simp) ?_
                      refine (AllReadyH.cons (o := o63_11_12) rfl (fun K hK => ?yc61) AllReadyH.nil)
                      case' yc61 =>
                        go_simp
                        clear hHeld
                        refine hK.out _ _ hS9 (fun hHeld => ?_)
                        clear hK K
                        try simp only [Act.put, List.setIfInBounds_toArray, List.set_cons_zero, List.set_cons_succ]
                        refine wpAnyH_ready (rs := [13]) (by kernel_rfl) (by simp) ?_
                        refine (AllReadyH.cons (o := o63_11_13) rfl (fun K hK => ?yc62) AllReadyH.nil)
                        case' yc62 =>
                          (refine step_append_lies _ rfl (.tmp 77) (.tmp 85) 127 rfl w.heap.size 83 i83 _ 1 8 Try.underlying127 hi83 hx0 hx1 hx2 rfl (by decide) (.slice ks1 j kc1) j ys (by simp [Act.eval, Act.put]) HYS.out ⟨w8.heap.size, 0, none⟩ 1 1 [.pointer (some ⟨q8, 0, none⟩)] (by simp [Act.eval, Act.put]) rfl (World.news_of_block (cs := #[.pointer (some ⟨q8, 0, none⟩)]) (blk_alloc_new _ _)) (by intro u hu; simp at hu; subst hu; rfl) (by decide) (by unfold maxLen; omega) (by omega) HZ8.out (w8.heap.size + 1) (by simp) ?_; intro g9 c9 w9 e1 e2 e3 e4; obtain ⟨hSA, ⟨B9, Z9⟩, hSB, uv9, uh9, hPI⟩ := HU9.out g9 c9 w9 e1 e2 e3; have HPN := (show Hid _ from hPI); clear e1 e2 e3 e4 hPI HU9 HYS HZ8; unfold Sc at hSA hSB; dsimp only at B9 Z9 hSB HPN)
                          clear hHeld
                          refine hK.out _ _ hSA (fun hHeld => ?_)
                          clear hK K
                          try simp only [Act.put, List.setIfInBounds_toArray, List.set_cons_zero, List.set_cons_succ]
                          refine wpAnyH_take (i := 14) (oi := o63_11_14) (v := ?v63) rfl (by kernel_rfl) (by kernel_rfl) (by kernel_rfl) (fun _ _ _ h => h) (Or.inl ⟨by rfl, ?h63⟩) hHeld ?r63
                          case h63 => (intro w hSw; (try dsimp only at hSw); go_simp; try with_reducible rfl)
                          try simp only [Act.put, List.setIfInBounds_toArray, List.set_cons_zero, List.set_cons_succ]
                          refine wpAnyH_take (i := 15) (oi := o63_11_15) (v := ?v64) rfl (by kernel_rfl) (by kernel_rfl) (by kernel_rfl) (fun _ _ _ h => h) (Or.inl ⟨by rfl, ?h64⟩) hHeld ?r64
                          case h64 => (intro w hSw; (try dsimp only at hSw); go_simp; try with_reducible rfl)
                          try simp only [Act.put, List.setIfInBounds_toArray, List.set_cons_zero, List.set_cons_succ]
                          refine wpAnyH_ready (rs := [16]) (by kernel_rfl) (by simp) ?_
                          refine (AllReadyH.cons (o := o63_11_16) rfl (fun K hK => ?yc65) AllReadyH.nil)
                          case' yc65 =>
                            go_simp
                            clear hHeld
                            refine hK.out _ _ hSB (fun hHeld => ?_)
                            clear hK K
                            try simp only [Act.put, List.setIfInBounds_toArray, List.set_cons_zero, List.set_cons_succ]
                            refine wpAnyH_done (by kernel_rfl) ?_ _
                            (try refine NoPanic.normal ?_)
                            clear hHeld hS0 hS1
                            go_wp2_with fail
                            exact ⟨⟨j + 1, uv9, uh9, _, by go_num, by omega, HPN⟩, by simp [intOf]; omega⟩
              case' yc56 =>
                go_simp
                clear hHeld
                refine hK.out _ _ hS1 (fun hHeld => ?_)
                clear hK K
                try simp only [Act.put, List.setIfInBounds_toArray, List.set_cons_zero, List.set_cons_succ]
                refine wpAnyH_ready (rs := [4, 10]) (by kernel_rfl) (by simp) ?_
                refine (AllReadyH.cons (o := o63_11_4) rfl (fun K hK => ?yc67) (AllReadyH.cons (o := o63_11_10) rfl (fun K hK => ?yc66) AllReadyH.nil))
                case' yc67 =>
                  go_simp
                  clear hHeld
                  refine hK.out _ _ hS1 (fun hHeld => ?_)
                  clear hK K
                  try simp only [Act.put, List.setIfInBounds_toArray, List.set_cons_zero, List.set_cons_succ]
                  refine wpAnyH_ready (rs := [10]) (by kernel_rfl) (by simp) ?_
                  refine (AllReadyH.cons (o := o63_11_10) rfl (fun K hK => ?yc68) AllReadyH.nil)
                  case' yc68 =>
                    (refine step_append_one _ rfl (.tmp 80) (.tmp 82) 138 rfl B i3 _ 8 Try.underlying138 hi3 hz0 hz1' hz2 rfl (.slice pa pn pc) pn xs (by simp [Act.eval, Act.put]) HO5.out ⟨wr.heap.size + 1, 0, none⟩ 1 (.int .i64 j) (by simp [Act.eval, Act.put]) HU5.out rfl (by unfold maxLen; omega) (by omega) HZ5.out ?_; intro v7 w7 hom; obtain ⟨hS7, K2, hcl⟩ := HUP.out v7 w7 hom; have HCL := (show Hid _ from hcl); obtain ⟨_, ⟨g7, c7, rfl⟩, _⟩ := hom; clear hcl HUP HO5 HU5 HZ5; unfold Sc at hS7; simp only [Tr.val] at HCL)
                    clear hHeld
                    refine hK.out _ _ hS7 (fun hHeld => ?_)
                    clear hK K
                    try simp only [Act.put, List.setIfInBounds_toArray, List.set_cons_zero, List.set_cons_succ]
                    refine wpAnyH_ready (rs := [11]) (by kernel_rfl) (by simp) ?_
                    refine (AllReadyH.cons (o := o63_11_11) rfl (fun K hK => ?yc69) AllReadyH.nil)
                    case' yc69 =>
                      go_simp
                      refine Calls.mono HCL.out ?_
                      rintro e w8 ⟨q8, rfl, hp8⟩
                      dsimp only
                      obtain ⟨hS8, K3, K4, hS9, hZ8, ys, hys, hup⟩ := hp8
                      have HYS := (show Hid _ from hys)
                      have HZ8 := (show Hid _ from hZ8)
                      have HU9 := (show Hid _ from hup)
                      clear hys hup hZ8 HCL
                      unfold Sc at hS8 hS9
                      dsimp only at K3 K4
                      clear hHeld
                      refine hK.out _ _ hS8 (fun hHeld => ?_)
                      clear hK K
                      try simp only [Act.put, List.setIfInBounds_toArray, List.set_cons_zero, List.set_cons_succ]
                      refine wpAnyH_ready (rs := [12]) (by kernel_rfl) (by simp) ?_
                      refine (AllReadyH.cons (o := o63_11_12) rfl (fun K hK => ?yc70) AllReadyH.nil)
                      case' yc70 =>
                        go_simp
                        clear hHeld
                        refine hK.out _ _ hS9 (fun hHeld => ?_)
                        clear hK K
                        try simp only [Act.put, List.setIfInBounds_toArray, List.set_cons_zero, List.set_cons_succ]
                        refine wpAnyH_ready (rs := [13]) (by kernel_rfl) (by simp) ?_
                        refine (AllReadyH.cons (o := o63_11_13) rfl (fun K hK => ?yc71) AllReadyH.nil)
                        case' yc71 =>
                          (refine step_append_lies _ rfl (.tmp 77) (.tmp 85) 127 rfl w.heap.size 83 i83 _ 1 8 Try.underlying127 hi83 hx0 hx1 hx2 rfl (by decide) (.slice ks1 j kc1) j ys (by simp [Act.eval, Act.put]) HYS.out ⟨w8.heap.size, 0, none⟩ 1 1 [.pointer (some ⟨q8, 0, none⟩)] (by simp [Act.eval, Act.put]) rfl (World.news_of_block (cs := #[.pointer (some ⟨q8, 0, none⟩)]) (blk_alloc_new _ _)) (by intro u hu; simp at hu; subst hu; rfl) (by decide) (by unfold maxLen; omega) (by omega) HZ8.out (w8.heap.size + 1) (by simp) ?_; intro g9 c9 w9 e1 e2 e3 e4; obtain ⟨hSA, ⟨B9, Z9⟩, hSB, uv9, uh9, hPI⟩ := HU9.out g9 c9 w9 e1 e2 e3; have HPN := (show Hid _ from hPI); clear e1 e2 e3 e4 hPI HU9 HYS HZ8; unfold Sc at hSA hSB; dsimp only at B9 Z9 hSB HPN)
                          clear hHeld
                          refine hK.out _ _ hSA (fun hHeld => ?_)
                          clear hK K
                          try simp only [Act.put, List.setIfInBounds_toArray, List.set_cons_zero, List.set_cons_succ]
                          refine wpAnyH_take (i := 14) (oi := o63_11_14) (v := ?v72) rfl (by kernel_rfl) (by kernel_rfl) (by kernel_rfl) (fun _ _ _ h => h) (Or.inl ⟨by rfl, ?h72⟩) hHeld ?r72
                          case h72 => (intro w hSw; (try dsimp only at hSw); go_simp; try with_reducible rfl)
                          try simp only [Act.put, List.setIfInBounds_toArray, List.set_cons_zero, List.set_cons_succ]
                          refine wpAnyH_take (i := 15) (oi := o63_11_15) (v := ?v73) rfl (by kernel_rfl) (by kernel_rfl) (by kernel_rfl) (fun _ _ _ h => h) (Or.inl ⟨by rfl, ?h73⟩) hHeld ?r73
                          case h73 => (intro w hSw; (try dsimp only at hSw); go_simp; try with_reducible rfl)
                          try simp only [Act.put, List.setIfInBounds_toArray, List.set_cons_zero, List.set_cons_succ]
                          refine wpAnyH_ready (rs := [16]) (by kernel_rfl) (by simp) ?_
                          refine (AllReadyH.cons (o := o63_11_16) rfl (fun K hK => ?yc74) AllReadyH.nil)
                          case' yc74 =>
                            go_simp
                            clear hHeld
                            refine hK.out _ _ hSB (fun hHeld => ?_)
                            clear hK K
                            try simp only [Act.put, List.setIfInBounds_toArray, List.set_cons_zero, List.set_cons_succ]
                            refine wpAnyH_done (by kernel_rfl) ?_ _
                            (try refine NoPanic.normal ?_)
                            clear hHeld hS0 hS1
                            go_wp2_with fail
                            exact ⟨⟨j + 1, uv9, uh9, _, by go_num, by omega, HPN⟩, by simp [intOf]; omega⟩
                case' yc66 =>
                  (refine step_append_one _ rfl (.tmp 80) (.tmp 82) 138 rfl B i3 _ 8 Try.underlying138 hi3 hz0 hz1' hz2 rfl (.slice pa pn pc) pn xs (by simp [Act.eval, Act.put]) HO5.out ⟨wr.heap.size + 1, 0, none⟩ 1 (.int .i64 j) (by simp [Act.eval, Act.put]) HU5.out rfl (by unfold maxLen; omega) (by omega) HZ5.out ?_; intro v7 w7 hom; obtain ⟨hS7, K2, hcl⟩ := HUP.out v7 w7 hom; have HCL := (show Hid _ from hcl); obtain ⟨_, ⟨g7, c7, rfl⟩, _⟩ := hom; clear hcl HUP HO5 HU5 HZ5; unfold Sc at hS7; simp only [Tr.val] at HCL)
                  clear hHeld
                  refine hK.out _ _ hS7 (fun hHeld => ?_)
                  clear hK K
                  try simp only [Act.put, List.setIfInBounds_toArray, List.set_cons_zero, List.set_cons_succ]
                  refine wpAnyH_ready (rs := [4, 11]) (by kernel_rfl) (by simp) ?_
                  refine (AllReadyH.cons (o := o63_11_4) rfl (fun K hK => ?yc76) (AllReadyH.cons (o := o63_11_11) rfl (fun K hK => ?yc75) AllReadyH.nil))
                  case' yc76 =>
                    go_simp
                    clear hHeld
                    refine hK.out _ _ hS7 (fun hHeld => ?_)
                    clear hK K
                    try simp only [Act.put, List.setIfInBounds_toArray, List.set_cons_zero, List.set_cons_succ]
                    refine wpAnyH_ready (rs := [11]) (by kernel_rfl) (by simp) ?_
                    refine (AllReadyH.cons (o := o63_11_11) rfl (fun K hK => ?yc77) AllReadyH.nil)
                    case' yc77 =>
                      go_simp
                      refine Calls.mono HCL.out ?_
                      rintro e w8 ⟨q8, rfl, hp8⟩
                      dsimp only
                      obtain ⟨hS8, K3, K4, hS9, hZ8, ys, hys, hup⟩ := hp8
                      have HYS := (show Hid _ from hys)
                      have HZ8 := (show Hid _ from hZ8)
                      have HU9 := (show Hid _ from hup)
                      clear hys hup hZ8 HCL
                      unfold Sc at hS8 hS9
                      dsimp only at K3 K4
                      clear hHeld
                      refine hK.out _ _ hS8 (fun hHeld => ?_)
                      clear hK K
                      try simp only [Act.put, List.setIfInBounds_toArray, List.set_cons_zero, List.set_cons_succ]
                      refine wpAnyH_ready (rs := [12]) (by kernel_rfl) (by simp) ?_
                      refine (AllReadyH.cons (o := o63_11_12) rfl (fun K hK => ?yc78) AllReadyH.nil)
                      case' yc78 =>
                        go_simp
                        clear hHeld
                        refine hK.out _ _ hS9 (fun hHeld => ?_)
                        clear hK K
                        try simp only [Act.put, List.setIfInBounds_toArray, List.set_cons_zero, List.set_cons_succ]
                        refine wpAnyH_ready (rs := [13]) (by kernel_rfl) (by simp) ?_
                        refine (AllReadyH.cons (o := o63_11_13) rfl (fun K hK => ?yc79) AllReadyH.nil)
                        case' yc79 =>
                          (refine step_append_lies _ rfl (.tmp 77) (.tmp 85) 127 rfl w.heap.size 83 i83 _ 1 8 Try.underlying127 hi83 hx0 hx1 hx2 rfl (by decide) (.slice ks1 j kc1) j ys (by simp [Act.eval, Act.put]) HYS.out ⟨w8.heap.size, 0, none⟩ 1 1 [.pointer (some ⟨q8, 0, none⟩)] (by simp [Act.eval, Act.put]) rfl (World.news_of_block (cs := #[.pointer (some ⟨q8, 0, none⟩)]) (blk_alloc_new _ _)) (by intro u hu; simp at hu; subst hu; rfl) (by decide) (by unfold maxLen; omega) (by omega) HZ8.out (w8.heap.size + 1) (by simp) ?_; intro g9 c9 w9 e1 e2 e3 e4; obtain ⟨hSA, ⟨B9, Z9⟩, hSB, uv9, uh9, hPI⟩ := HU9.out g9 c9 w9 e1 e2 e3; have HPN := (show Hid _ from hPI); clear e1 e2 e3 e4 hPI HU9 HYS HZ8; unfold Sc at hSA hSB; dsimp only at B9 Z9 hSB HPN)
                          clear hHeld
                          refine hK.out _ _ hSA (fun hHeld => ?_)
                          clear hK K
                          try simp only [Act.put, List.setIfInBounds_toArray, List.set_cons_zero, List.set_cons_succ]
                          refine wpAnyH_take (i := 14) (oi := o63_11_14) (v := ?v80) rfl (by kernel_rfl) (by kernel_rfl) (by kernel_rfl) (fun _ _ _ h => h) (Or.inl ⟨by rfl, ?h80⟩) hHeld ?r80
                          case h80 => (intro w hSw; (try dsimp only at hSw); go_simp; try with_reducible rfl)
                          try simp only [Act.put, List.setIfInBounds_toArray, List.set_cons_zero, List.set_cons_succ]
                          refine wpAnyH_take (i := 15) (oi := o63_11_15) (v := ?v81) rfl (by kernel_rfl) (by kernel_rfl) (by kernel_rfl) (fun _ _ _ h => h) (Or.inl ⟨by rfl, ?h81⟩) hHeld ?r81
                          case h81 => (intro w hSw; (try dsimp only at hSw); go_simp; try with_reducible rfl)
                          try simp only [Act.put, List.setIfInBounds_toArray, List.set_cons_zero, List.set_cons_succ]
                          refine wpAnyH_ready (rs := [16]) (by kernel_rfl) (by simp) ?_
                          refine (AllReadyH.cons (o := o63_11_16) rfl (fun K hK => ?yc82) AllReadyH.nil)
                          case' yc82 =>
                            go_simp
                            clear hHeld
                            refine hK.out _ _ hSB (fun hHeld => ?_)
                            clear hK K
                            try simp only [Act.put, List.setIfInBounds_toArray, List.set_cons_zero, List.set_cons_succ]
                            refine wpAnyH_done (by kernel_rfl) ?_ _
                            (try refine NoPanic.normal ?_)
                            clear hHeld hS0 hS1
                            go_wp2_with fail
                            exact ⟨⟨j + 1, uv9, uh9, _, by go_num, by omega, HPN⟩, by simp [intOf]; omega⟩
                  case' yc75 =>
                    go_simp
                    refine Calls.mono HCL.out ?_
                    rintro e w8 ⟨q8, rfl, hp8⟩
                    dsimp only
                    obtain ⟨hS8, K3, K4, hS9, hZ8, ys, hys, hup⟩ := hp8
                    have HYS := (show Hid _ from hys)
                    have HZ8 := (show Hid _ from hZ8)
                    have HU9 := (show Hid _ from hup)
                    clear hys hup hZ8 HCL
                    unfold Sc at hS8 hS9
                    dsimp only at K3 K4
                    clear hHeld
                    refine hK.out _ _ hS8 (fun hHeld => ?_)
                    clear hK K
                    try simp only [Act.put, List.setIfInBounds_toArray, List.set_cons_zero, List.set_cons_succ]
                    refine wpAnyH_ready (rs := [4, 12]) (by kernel_rfl) (by simp) ?_
                    refine (AllReadyH.cons (o := o63_11_4) rfl (fun K hK => ?yc84) (AllReadyH.cons (o := o63_11_12) rfl (fun K hK => ?yc83) AllReadyH.nil))
                    case' yc84 =>
                      go_simp
                      clear hHeld
                      refine hK.out _ _ hS8 (fun hHeld => ?_)
                      clear hK K
                      try simp only [Act.put, List.setIfInBounds_toArray, List.set_cons_zero, List.set_cons_succ]
                      refine wpAnyH_ready (rs := [12]) (by kernel_rfl) (by simp) ?_
                      refine (AllReadyH.cons (o := o63_11_12) rfl (fun K hK => ?yc85) AllReadyH.nil)
                      case' yc85 =>
                        go_simp
                        clear hHeld
                        refine hK.out _ _ hS9 (fun hHeld => ?_)
                        clear hK K
                        try simp only [Act.put, List.setIfInBounds_toArray, List.set_cons_zero, List.set_cons_succ]
                        refine wpAnyH_ready (rs := [13]) (by kernel_rfl) (by simp) ?_
                        refine (AllReadyH.cons (o := o63_11_13) rfl (fun K hK => ?yc86) AllReadyH.nil)
                        case' yc86 =>
                          (refine step_append_lies _ rfl (.tmp 77) (.tmp 85) 127 rfl w.heap.size 83 i83 _ 1 8 Try.underlying127 hi83 hx0 hx1 hx2 rfl (by decide) (.slice ks1 j kc1) j ys (by simp [Act.eval, Act.put]) HYS.out ⟨w8.heap.size, 0, none⟩ 1 1 [.pointer (some ⟨q8, 0, none⟩)] (by simp [Act.eval, Act.put]) rfl (World.news_of_block (cs := #[.pointer (some ⟨q8, 0, none⟩)]) (blk_alloc_new _ _)) (by intro u hu; simp at hu; subst hu; rfl) (by decide) (by unfold maxLen; omega) (by omega) HZ8.out (w8.heap.size + 1) (by simp) ?_; intro g9 c9 w9 e1 e2 e3 e4; obtain ⟨hSA, ⟨B9, Z9⟩, hSB, uv9, uh9, hPI⟩ := HU9.out g9 c9 w9 e1 e2 e3; have HPN := (show Hid _ from hPI); clear e1 e2 e3 e4 hPI HU9 HYS HZ8; unfold Sc at hSA hSB; dsimp only at B9 Z9 hSB HPN)
                          clear hHeld
                          refine hK.out _ _ hSA (fun hHeld => ?_)
                          clear hK K
                          try simp only [Act.put, List.setIfInBounds_toArray, List.set_cons_zero, List.set_cons_succ]
                          refine wpAnyH_take (i := 14) (oi := o63_11_14) (v := ?v87) rfl (by kernel_rfl) (by kernel_rfl) (by kernel_rfl) (fun _ _ _ h => h) (Or.inl ⟨by rfl, ?h87⟩) hHeld ?r87
                          case h87 => (intro w hSw; (try dsimp only at hSw); go_simp; try with_reducible rfl)
                          try simp only [Act.put, List.setIfInBounds_toArray, List.set_cons_zero, List.set_cons_succ]
                          refine wpAnyH_take (i := 15) (oi := o63_11_15) (v := ?v88) rfl (by kernel_rfl) (by kernel_rfl) (by kernel_rfl) (fun _ _ _ h => h) (Or.inl ⟨by rfl, ?h88⟩) hHeld ?r88
                          case h88 => (intro w hSw; (try dsimp only at hSw); go_simp; try with_reducible rfl)
                          try simp only [Act.put, List.setIfInBounds_toArray, List.set_cons_zero, List.set_cons_succ]
                          refine wpAnyH_ready (rs := [16]) (by kernel_rfl) (by simp) ?_
                          refine (AllReadyH.cons (o := o63_11_16) rfl (fun K hK => ?yc89) AllReadyH.nil)
                          case' yc89 =>
                            go_simp
                            clear hHeld
                            refine hK.out _ _ hSB (fun hHeld => ?_)
                            clear hK K
                            try simp only [Act.put, List.setIfInBounds_toArray, List.set_cons_zero, List.set_cons_succ]
                            refine wpAnyH_done (by kernel_rfl) ?_ _
                            (try refine NoPanic.normal ?_)
                            clear hHeld hS0 hS1
                            go_wp2_with fail
                            exact ⟨⟨j + 1, uv9, uh9, _, by go_num, by omega, HPN⟩, by simp [intOf]; omega⟩
                    case' yc83 =>
                      go_simp
                      clear hHeld
                      refine hK.out _ _ hS9 (fun hHeld => ?_)
                      clear hK K
                      try simp only [Act.put, List.setIfInBounds_toArray, List.set_cons_zero, List.set_cons_succ]
                      refine wpAnyH_ready (rs := [4]) (by kernel_rfl) (by simp) ?_
                      refine (AllReadyH.cons (o := o63_11_4) rfl (fun K hK => ?yc90) AllReadyH.nil)
                      case' yc90 =>
                        go_simp
                        clear hHeld
                        refine hK.out _ _ hS9 (fun hHeld => ?_)
                        clear hK K
                        try simp only [Act.put, List.setIfInBounds_toArray, List.set_cons_zero, List.set_cons_succ]
                        refine wpAnyH_ready (rs := [13]) (by kernel_rfl) (by simp) ?_
                        refine (AllReadyH.cons (o := o63_11_13) rfl (fun K hK => ?yc91) AllReadyH.nil)
                        case' yc91 =>
                          (refine step_append_lies _ rfl (.tmp 77) (.tmp 85) 127 rfl w.heap.size 83 i83 _ 1 8 Try.underlying127 hi83 hx0 hx1 hx2 rfl (by decide) (.slice ks1 j kc1) j ys (by simp [Act.eval, Act.put]) HYS.out ⟨w8.heap.size, 0, none⟩ 1 1 [.pointer (some ⟨q8, 0, none⟩)] (by simp [Act.eval, Act.put]) rfl (World.news_of_block (cs := #[.pointer (some ⟨q8, 0, none⟩)]) (blk_alloc_new _ _)) (by intro u hu; simp at hu; subst hu; rfl) (by decide) (by unfold maxLen; omega) (by omega) HZ8.out (w8.heap.size + 1) (by simp) ?_; intro g9 c9 w9 e1 e2 e3 e4; obtain ⟨hSA, ⟨B9, Z9⟩, hSB, uv9, uh9, hPI⟩ := HU9.out g9 c9 w9 e1 e2 e3; have HPN := (show Hid _ from hPI); clear e1 e2 e3 e4 hPI HU9 HYS HZ8; unfold Sc at hSA hSB; dsimp only at B9 Z9 hSB HPN)
                          clear hHeld
                          refine hK.out _ _ hSA (fun hHeld => ?_)
                          clear hK K
                          try simp only [Act.put, List.setIfInBounds_toArray, List.set_cons_zero, List.set_cons_succ]
                          refine wpAnyH_take (i := 14) (oi := o63_11_14) (v := ?v92) rfl (by kernel_rfl) (by kernel_rfl) (by kernel_rfl) (fun _ _ _ h => h) (Or.inl ⟨by rfl, ?h92⟩) hHeld ?r92
                          case h92 => (intro w hSw; (try dsimp only at hSw); go_simp; try with_reducible rfl)
                          try simp only [Act.put, List.setIfInBounds_toArray, List.set_cons_zero, List.set_cons_succ]
                          refine wpAnyH_take (i := 15) (oi := o63_11_15) (v := ?v93) rfl (by kernel_rfl) (by kernel_rfl) (by kernel_rfl) (fun _ _ _ h => h) (Or.inl ⟨by rfl, ?h93⟩) hHeld ?r93
                          case h93 => (intro w hSw; (try dsimp only at hSw); go_simp; try with_reducible rfl)
                          try simp only [Act.put, List.setIfInBounds_toArray, List.set_cons_zero, List.set_cons_succ]
                          refine wpAnyH_ready (rs := [16]) (by kernel_rfl) (by simp) ?_
                          refine (AllReadyH.cons (o := o63_11_16) rfl (fun K hK => ?yc94) AllReadyH.nil)
                          case' yc94 =>
                            go_simp
                            clear hHeld
                            refine hK.out _ _ hSB (fun hHeld => ?_)
                            clear hK K
                            try simp only [Act.put, List.setIfInBounds_toArray, List.set_cons_zero, List.set_cons_succ]
                            refine wpAnyH_done (by kernel_rfl) ?_ _
                            (try refine NoPanic.normal ?_)
                            clear hHeld hS0 hS1
                            go_wp2_with fail
                            exact ⟨⟨j + 1, uv9, uh9, _, by go_num, by omega, HPN⟩, by simp [intOf]; omega⟩
            · have i1 : ¬ ((j : Int) < (k.length : Int)) := by omega
              have hje : j = k.length := by omega
              subst hje
              have HE := (show Hid _ from HFIN.out w1 uvj uhj kvj wr hz1 HP.out)
              clear HP HFIN HTB
              go_wp2_with fail
              go_ret
              exact HE.out
        · have HV6 := (show Hid (v6B n true = true) from by show v6B n true = _; unfold v6B; rw [← eqS_var, ← eqS_val, q2, q3]; rfl)
          have HCV := (show Hid _ from vari71 B b m ks hn f uv (.slice ha' hn hac) n x true (.slice a k.length cap) (w.alloc (.cells #[.string n, .string x, .bool true, .slice a k.length cap] 42)) (HR.out.still (bel_alloc _ _)) hxz rfl (by have := HBB.out; simp; omega) (by omega))
          have HFIN := (show Hid (∀ (num : Nat) (uv' : Value) (w1 : World), Rs w1 B b m (adS ks x) hn (f || !(nmB x)) uv' (.slice ha' hn hac) → Fm (fun q => q = b ∨ q = m ∨ uv.ownBlock = some q) (w.alloc (.cells #[.string n, .string x, .bool true, .slice a k.length cap] 42)) w1 → At1 (w.alloc (.cells #[.string n, .string x, .bool true, .slice a k.length cap] 42)).heap.size uv uv' → PaA B b m ks hn f uv (.slice ha' hn hac) (.slice pa pn pc) pn xs ⟨n, x, true, k⟩ w (.returned (.pointer (some ⟨w1.heap.size, 0, none⟩))) (w1.alloc (.cells #[.string ByteArray.empty, .string ByteArray.empty, .bool false, .int .i64 1, .int .i64 (num : Nat), .slice none 0 0] 129))) from fun num uv' w1 g1 g2 g3 => by
            have hz0 : (w.alloc (.cells #[.string n, .string x, .bool true, .slice a k.length cap] 42)).heap.size = w.heap.size + 1 := by simp
            have hz1 := g2.size
            have bN := bel_alloc w1 (.cells #[.string ByteArray.empty, .string ByteArray.empty, .bool false, .int .i64 1, .int .i64 (num : Nat), .slice none 0 0] 129)
            refine ⟨w1.heap.size, uv', (.slice ha' hn hac), ByteArray.empty, ByteArray.empty, false, (num : Nat), .slice none 0 0, rfl, by omega, ?_, ?_, ?_, ?_, ?_, At1.refl _ _, fun e => ?_, fun e => ?_⟩
            · have e : kd n true = 1 := by unfold kd; rw [if_neg (by rw [v6_ho HV6.out]; simp), if_pos HV6.out]
              dsimp only
              rw [e]
              exact Box.new w1 129 _
            · have e1' : pv ⟨n, x, true, k⟩ ks = adS ks x := by rw [pv_mk, if_neg (by rw [v6_ho HV6.out]; simp), if_pos HV6.out]
              have e2' : ph ⟨n, x, true, k⟩ = 0 := by rw [ph_mk, if_neg (by rw [v6_ho HV6.out]; simp), if_pos HV6.out]
              have e3' : pf ⟨n, x, true, k⟩ = !(nmB x) := by rw [pf_mk, if_neg (by rw [v6_ho HV6.out]; simp), if_pos HV6.out]
              rw [e1', e2', e3', Nat.add_zero]
              exact g1.still bN
            · have g0 : Fm (To b m uv (.slice ha' hn hac) (.slice pa pn pc)) w w1 := (Fm.of_below (bel_alloc w (.cells #[.string n, .string x, .bool true, .slice a k.length cap] 42))).trans g2 (fun q _ e => by
                rcases e with e | e | e
                · exact .inl e
                · exact .inr (.inl e)
                · exact .inr (.inr (.inl e)))
              exact g0.still bN
            · have p0 : (w.alloc (.cells #[.string n, .string x, .bool true, .slice a k.length cap] 42)).ownsRow B 3 1 (.slice pa pn pc) pn xs := own_still HPW.out (bel_alloc _ _)
              refine own_still (own_keep1 p0 (fun q hq => g2.block q (p0.lt q hq).2 ?_)) bN
              rintro (e | e | e)
              · exact (HPD.out q hq).1 e
              · exact (HPD.out q hq).2.1 e
              · exact (HPD.out q hq).2.2.1 e
            · rcases g3 with e | ⟨q, e, hq⟩
              · exact .inl e
              · exact .inr ⟨q, e, by omega⟩
            · have := (g1.uvl _ e).2; omega
            · have := (g1.uhl _ e).2; omega)
          go_enter Try.func63, Try.ntmps63
          go_wp2_with fail
          refine Calls.mono HCV.out ?_
          rintro e w1 ⟨num, uv', rfl, g1, g2, g3, g4⟩
          have HE := (show Hid _ from HFIN.out num uv' w1 g1 g2 g3)
          clear g1 g2 g3 g4 HFIN HCV
          go_wp2_with fail
          go_ret
          exact HE.out
      · have HV6 := (show Hid (v6B n true = true) from by show v6B n true = _; unfold v6B; rw [← eqS_var, q2]; rfl)
        have HCV := (show Hid _ from vari71 B b m ks hn f uv (.slice ha' hn hac) n x true (.slice a k.length cap) (w.alloc (.cells #[.string n, .string x, .bool true, .slice a k.length cap] 42)) (HR.out.still (bel_alloc _ _)) hxz rfl (by have := HBB.out; simp; omega) (by omega))
        have HFIN := (show Hid (∀ (num : Nat) (uv' : Value) (w1 : World), Rs w1 B b m (adS ks x) hn (f || !(nmB x)) uv' (.slice ha' hn hac) → Fm (fun q => q = b ∨ q = m ∨ uv.ownBlock = some q) (w.alloc (.cells #[.string n, .string x, .bool true, .slice a k.length cap] 42)) w1 → At1 (w.alloc (.cells #[.string n, .string x, .bool true, .slice a k.length cap] 42)).heap.size uv uv' → PaA B b m ks hn f uv (.slice ha' hn hac) (.slice pa pn pc) pn xs ⟨n, x, true, k⟩ w (.returned (.pointer (some ⟨w1.heap.size, 0, none⟩))) (w1.alloc (.cells #[.string ByteArray.empty, .string ByteArray.empty, .bool false, .int .i64 1, .int .i64 (num : Nat), .slice none 0 0] 129))) from fun num uv' w1 g1 g2 g3 => by
          have hz0 : (w.alloc (.cells #[.string n, .string x, .bool true, .slice a k.length cap] 42)).heap.size = w.heap.size + 1 := by simp
          have hz1 := g2.size
          have bN := bel_alloc w1 (.cells #[.string ByteArray.empty, .string ByteArray.empty, .bool false, .int .i64 1, .int .i64 (num : Nat), .slice none 0 0] 129)
          refine ⟨w1.heap.size, uv', (.slice ha' hn hac), ByteArray.empty, ByteArray.empty, false, (num : Nat), .slice none 0 0, rfl, by omega, ?_, ?_, ?_, ?_, ?_, At1.refl _ _, fun e => ?_, fun e => ?_⟩
          · have e : kd n true = 1 := by unfold kd; rw [if_neg (by rw [v6_ho HV6.out]; simp), if_pos HV6.out]
            dsimp only
            rw [e]
            exact Box.new w1 129 _
          · have e1' : pv ⟨n, x, true, k⟩ ks = adS ks x := by rw [pv_mk, if_neg (by rw [v6_ho HV6.out]; simp), if_pos HV6.out]
            have e2' : ph ⟨n, x, true, k⟩ = 0 := by rw [ph_mk, if_neg (by rw [v6_ho HV6.out]; simp), if_pos HV6.out]
            have e3' : pf ⟨n, x, true, k⟩ = !(nmB x) := by rw [pf_mk, if_neg (by rw [v6_ho HV6.out]; simp), if_pos HV6.out]
            rw [e1', e2', e3', Nat.add_zero]
            exact g1.still bN
          · have g0 : Fm (To b m uv (.slice ha' hn hac) (.slice pa pn pc)) w w1 := (Fm.of_below (bel_alloc w (.cells #[.string n, .string x, .bool true, .slice a k.length cap] 42))).trans g2 (fun q _ e => by
              rcases e with e | e | e
              · exact .inl e
              · exact .inr (.inl e)
              · exact .inr (.inr (.inl e)))
            exact g0.still bN
          · have p0 : (w.alloc (.cells #[.string n, .string x, .bool true, .slice a k.length cap] 42)).ownsRow B 3 1 (.slice pa pn pc) pn xs := own_still HPW.out (bel_alloc _ _)
            refine own_still (own_keep1 p0 (fun q hq => g2.block q (p0.lt q hq).2 ?_)) bN
            rintro (e | e | e)
            · exact (HPD.out q hq).1 e
            · exact (HPD.out q hq).2.1 e
            · exact (HPD.out q hq).2.2.1 e
          · rcases g3 with e | ⟨q, e, hq⟩
            · exact .inl e
            · exact .inr ⟨q, e, by omega⟩
          · have := (g1.uvl _ e).2; omega
          · have := (g1.uhl _ e).2; omega)
        go_enter Try.func63, Try.ntmps63
        go_wp2_with fail
        refine Calls.mono HCV.out ?_
        rintro e w1 ⟨num, uv', rfl, g1, g2, g3, g4⟩
        have HE := (show Hid _ from HFIN.out num uv' w1 g1 g2 g3)
        clear g1 g2 g3 g4 HFIN HCV
        go_wp2_with fail
        go_ret
        exact HE.out
    · have HHO := (show Hid (hoB n true = true) from by show hoB n true = _; unfold hoB; rw [← eqS_hol, q1]; rfl)
      cases f
      case true =>
        have HUP := (show Hid (∀ (ua : Option Addr) (uc : Nat) (w1 : World), Below (w.alloc (.cells #[.string n, .string x, .bool true, .slice a k.length cap] 42)).drew.heap.size (w.alloc (.cells #[.string n, .string x, .bool true, .slice a k.length cap] 42)).drew w1 → (w1.cell? ⟨b, 2, none⟩ = some (.slice ha' hn hac) ∧ (w1.alloc (.cells #[.slice ua pn uc] 138)).cell? ⟨b, 2, none⟩ = some (.slice ha' hn hac)) ∧ B ≤ (w1.alloc (.cells #[.slice ua pn uc] 138)).heap.size ∧ (w1.alloc (.cells #[.slice ua pn uc] 138)).ownsRow B 138 1 (.slice ha' hn hac) hn hs ∧ ∀ (g5 c5 : Nat) (w5 : World), w5.ownsRow B 138 1 (.slice (some ⟨g5, 0, none⟩) (hn + 1) c5) (hn + 1) (hs ++ [.slice ua pn uc]) → (w1.alloc (.cells #[.slice ua pn uc] 138)).grownBy w5 (Value.slice ha' hn hac).ownBlock → ((Value.slice ha' hn hac).ownBlock = some g5 ∨ g5 = w1.heap.size + 1) → (w5.cell? ⟨b, 2, none⟩ = some (.slice ha' hn hac) ∧ w5.frozen? ⟨b, 2, none⟩ = false) ∧ ((w5.setCell ⟨b, 2, none⟩ (.slice (some ⟨g5, 0, none⟩) (hn + 1) c5)).cell? ⟨b, 3, none⟩ = some (.bool true) ∧ (w5.setCell ⟨b, 2, none⟩ (.slice (some ⟨g5, 0, none⟩) (hn + 1) c5)).frozen? ⟨b, 3, none⟩ = false) ∧ (w5.setCell ⟨b, 2, none⟩ (.slice (some ⟨g5, 0, none⟩) (hn + 1) c5)).cell? ⟨w.heap.size, 1, none⟩ = some (.string x) ∧ PaA B b m ks hn true uv (.slice ha' hn hac) (.slice pa pn pc) pn xs ⟨n, x, true, k⟩ w (.returned (.pointer (some ⟨w5.heap.size, 0, none⟩))) (((w5.setCell ⟨b, 2, none⟩ (.slice (some ⟨g5, 0, none⟩) (hn + 1) c5)).setCell ⟨b, 3, none⟩ (.bool true)).alloc (.cells #[.string ByteArray.empty, .string ByteArray.empty, .bool false, .int .i64 2, .int .i64 0, .slice none 0 0] 129))) from fun ua uc w1 hb1 => by
          have hz0 : (w.alloc (.cells #[.string n, .string x, .bool true, .slice a k.length cap] 42)).drew.heap.size = w.heap.size + 1 := by simp
          have hz1 := hb1.size
          have hbw1 : Below w.heap.size w w1 := (((bel_alloc w (.cells #[.string n, .string x, .bool true, .slice a k.length cap] 42)).drew)).trans (hb1.mono (by simp))
          have bA := bel_alloc w1 (.cells #[.slice ua pn uc] 138)
          have hbwA := bel_trans hbw1 bA
          have r1 := HR.out.still hbw1
          have rA := r1.still bA
          have bt1 : Box w1 w.heap.size 42 [.string n, .string x, .bool true, .slice a k.length cap] := ((Box.new w 42 _).still ((Below.refl _ _).drew)).still hb1
          have btA := bt1.still bA
          have oA : (w1.alloc (.cells #[.slice ua pn uc] 138)).ownsRow B 138 1 (.slice ha' hn hac) hn hs := own_keep1 HRH.out (fun q hq => hbwA.block q (World.ownsRow.lt HRH.out q hq).2)
          refine ⟨⟨r1.bx.cell 2 (by simp), rA.bx.cell 2 (by simp)⟩, by have := HBB.out; have := hbwA.size; omega, oA, fun g5 c5 w5 e1 e2 e3 => ?_⟩
          have hzA : (w1.alloc (.cells #[.slice ua pn uc] 138)).heap.size = w1.heap.size + 1 := by simp
          have hz5 := e2.size
          have hbw : b < w.heap.size := HR.out.bx.lt
          have hmw : m < w.heap.size := HR.out.mp.lt
          have f5 : Fm (fun q => (Value.slice ha' hn hac).ownBlock = some q) w w5 := (Fm.of_below hbwA).trans (Fm.of_grown (T := fun q => (Value.slice ha' hn hac).ownBlock = some q) e2 (fun q hq => hq)) (fun _ _ e => e)
          have hn3 := HR.out.n3
          have b5 : Box w5 b 112 [.map (some m), uv, (.slice ha' hn hac), .bool true] := HR.out.bx.fm f5 (fun e => (hn3 b e).1 rfl)
          have t5 : Box w5 w.heap.size 42 [.string n, .string x, .bool true, .slice a k.length cap] := btA.keep (e2.block _ (by have := btA.lt; omega) (fun e => by have := (HR.out.uhl _ e.symm).2; omega))
          have m5 : Mn w5 m 9 (strs ks) := HR.out.mp.keep (f5.block m hmw (fun e => (hn3 m e).2.1 rfl))
          obtain ⟨bs, q1, q2⟩ := HR.out.rv
          have v5 : w5.ownsRow B 4 1 uv ks.length bs := own_keep1 q2 (fun q hq => f5.block q (q2.lt q hq).2 (fun e => (hn3 q e).2.2 hq))
          have p5 : w5.ownsRow B 3 1 (.slice pa pn pc) pn xs := own_keep1 HPW.out (fun q hq => f5.block q (World.ownsRow.lt HPW.out q hq).2 (fun e => (HPD.out q hq).2.2.2 e))
          have hg : g5 ≠ b ∧ g5 ≠ m ∧ uv.ownBlock ≠ some g5 ∧ (w.heap.size ≤ g5 ∨ (Value.slice ha' hn hac).ownBlock = some g5) := by
            rcases e3 with e | e
            · have := hn3 g5 e
              exact ⟨this.1, this.2.1, this.2.2, .inr e⟩
            · refine ⟨by omega, by omega, fun e2 => ?_, .inl (by omega)⟩
              have := (HR.out.uvl g5 e2).2
              omega
          have kS : ∀ q, q ≠ b → (w5.setCell ⟨b, 2, none⟩ (.slice (some ⟨g5, 0, none⟩) (hn + 1) c5)).heap[q]? = w5.heap[q]? := fun q hq => blk_setCell_other _ _ _ _ (by show q ≠ b; exact hq)
          have kS2 : ∀ q, q ≠ b → ((w5.setCell ⟨b, 2, none⟩ (.slice (some ⟨g5, 0, none⟩) (hn + 1) c5)).setCell ⟨b, 3, none⟩ (.bool true)).heap[q]? = w5.heap[q]? := fun q hq => (blk_setCell_other _ _ _ _ (by show q ≠ b; exact hq)).trans (kS q hq)
          have b6 := b5.set 2 (.slice (some ⟨g5, 0, none⟩) (hn + 1) c5)
          have b6' : Box (w5.setCell ⟨b, 2, none⟩ (.slice (some ⟨g5, 0, none⟩) (hn + 1) c5)) b 112 [.map (some m), uv, .slice (some ⟨g5, 0, none⟩) (hn + 1) c5, .bool true] := b6
          have b7 : Box ((w5.setCell ⟨b, 2, none⟩ (.slice (some ⟨g5, 0, none⟩) (hn + 1) c5)).setCell ⟨b, 3, none⟩ (.bool true)) b 112 [.map (some m), uv, .slice (some ⟨g5, 0, none⟩) (hn + 1) c5, .bool true] := b6'.set 3 (.bool true)
          refine ⟨⟨b5.cell 2 (by simp), b5.frozen 2⟩, ⟨b6'.cell 3 (by simp), b6'.frozen 3⟩, (t5.keep (kS _ (by omega))).cell 1 (by simp), ?_⟩
          have bN := bel_alloc ((w5.setCell ⟨b, 2, none⟩ (.slice (some ⟨g5, 0, none⟩) (hn + 1) c5)).setCell ⟨b, 3, none⟩ (.bool true)) (.cells #[.string ByteArray.empty, .string ByteArray.empty, .bool false, .int .i64 2, .int .i64 0, .slice none 0 0] 129)
          have hzF : ((w5.setCell ⟨b, 2, none⟩ (.slice (some ⟨g5, 0, none⟩) (hn + 1) c5)).setCell ⟨b, 3, none⟩ (.bool true)).heap.size = w5.heap.size := by simp
          have hzw : w.heap.size < w5.heap.size := t5.lt
          have hs5 : (true || pf ⟨n, x, true, k⟩) = true := by simp
          refine ⟨w5.heap.size, uv, .slice (some ⟨g5, 0, none⟩) (hn + 1) c5, ByteArray.empty, ByteArray.empty, false, 0, .slice none 0 0, rfl, by omega, ?_, ?_, ?_, ?_, At1.refl _ _, ?_, fun e => ?_, fun e => ?_⟩
          · have e : kd n true = 2 := by unfold kd; rw [if_pos HHO.out]
            have h := Box.new ((w5.setCell ⟨b, 2, none⟩ (.slice (some ⟨g5, 0, none⟩) (hn + 1) c5)).setCell ⟨b, 3, none⟩ (.bool true)) 129 [.string ByteArray.empty, .string ByteArray.empty, .bool false, .int .i64 2, .int .i64 0, .slice none 0 0]
            rw [hzF] at h
            dsimp only
            rw [e]
            exact h
          · have e1' : pv ⟨n, x, true, k⟩ ks = ks := by rw [pv_mk, if_pos HHO.out]
            have e2' : ph ⟨n, x, true, k⟩ = 1 := by rw [ph_mk, if_pos HHO.out]
            have e3' : (true || pf ⟨n, x, true, k⟩) = true := hs5
            rw [e1', e2', e3']
            have rr : Rs ((w5.setCell ⟨b, 2, none⟩ (.slice (some ⟨g5, 0, none⟩) (hn + 1) c5)).setCell ⟨b, 3, none⟩ (.bool true)) B b m ks (hn + 1) true uv (.slice (some ⟨g5, 0, none⟩) (hn + 1) c5) := ⟨b7, m5.keep (kS2 _ (Ne.symm HR.out.n1)), ⟨bs, q1, own_keep1 v5 (fun q hq => kS2 q (HR.out.n2 q hq).1)⟩, ⟨_, own_keep1 e1 (fun q hq => kS2 q (by
              have : g5 = q := by simpa [Value.ownBlock] using hq
              rw [← this]; exact hg.1))⟩, HR.out.hb, HR.out.hm, HR.out.n1, HR.out.n2, fun q hq => by
              have : g5 = q := by simpa [Value.ownBlock] using hq
              rw [← this]; exact ⟨hg.1, hg.2.1, hg.2.2.1⟩⟩
            exact rr.still bN
          · have g5a : Fm (To b m uv (.slice ha' hn hac) (.slice pa pn pc)) w w5 := ⟨f5.os, f5.tape, f5.output, f5.size, fun q hq hn => f5.block q hq (fun e => hn (.inr (.inr (.inr (.inl e)))))⟩
            exact ((g5a.trans (T' := fun q => q = b) (Fm.set rfl) (fun q _ e => .inl e)).trans (T' := fun q => q = b) (Fm.set rfl) (fun q _ e => .inl e)).still bN
          · exact own_still (own_keep1 p5 (fun q hq => kS2 q (HPD.out q hq).1)) bN
          · rcases e3 with e | e
            · exact .inl e.symm
            · exact .inr ⟨g5, rfl, by omega⟩
          · have := (HR.out.uvl _ e).2; omega
          · have : g5 = w5.heap.size := by simpa [Value.ownBlock] using e
            have := (e1.lt g5 rfl).2
            omega)
        have K0 : (w.alloc (.cells #[.string n, .string x, .bool true, .slice a k.length cap] 42)).drew.cell? ⟨b, 2, none⟩ = some (.slice ha' hn hac) := (HR.out.still (bel_alloc _ _)).bx.cell 2 (by simp)
        have HCN := (show Hid _ from clone70 xs pn (.slice pa pn pc) (w.alloc (.cells #[.string n, .string x, .bool true, .slice a k.length cap] 42)).drew (own_keep1 HPW.out (fun q hq => ((bel_alloc w (.cells #[.string n, .string x, .bool true, .slice a k.length cap] 42)).drew).block q (World.ownsRow.lt HPW.out q hq).2)) HON.out (by omega))
        go_enter Try.func63, Try.ntmps63
        go_wp2_with fail
        refine wp_region_held_drew (S := (fun _ => True)) (by kernel_rfl) trivial (fun hHeld => ?_)
        refine wpAnyH_take (i := 0) (oi := o63_2_0) (v := ?v95) rfl (by kernel_rfl) (by kernel_rfl) (by kernel_rfl) (fun _ _ _ h => h) (Or.inl ⟨by rfl, ?h95⟩) hHeld ?r95
        case h95 => (intro w hSw; (try dsimp only at hSw); go_simp; try with_reducible rfl)
        try simp only [Act.put, List.setIfInBounds_toArray, List.set_cons_zero, List.set_cons_succ]
        refine wpAnyH_take (i := 1) (oi := o63_2_1) (v := ?v96) rfl (by kernel_rfl) (by kernel_rfl) (by kernel_rfl) (fun _ _ _ h => h) (Or.inl ⟨by rfl, ?h96⟩) hHeld ?r96
        case h96 => (intro w hSw; (try dsimp only at hSw); go_simp; try with_reducible rfl)
        try simp only [Act.put, List.setIfInBounds_toArray, List.set_cons_zero, List.set_cons_succ]
        refine wpAnyH_take (i := 2) (oi := o63_2_2) (v := ?v97) rfl (by kernel_rfl) (by kernel_rfl) (by kernel_rfl) (fun _ _ _ h => h) (Or.inl ⟨by rfl, ?h97⟩) hHeld ?r97
        case h97 => (intro w hSw; (try dsimp only at hSw); go_simp; try with_reducible rfl)
        try simp only [Act.put, List.setIfInBounds_toArray, List.set_cons_zero, List.set_cons_succ]
        refine wpAnyH_take (i := 3) (oi := o63_2_3) (v := ?v98) rfl (by kernel_rfl) (by kernel_rfl) (by kernel_rfl) (fun _ _ _ h => h) (Or.inl ⟨by rfl, ?h98⟩) hHeld ?r98
        case h98 => (intro w hSw; (try dsimp only at hSw); go_simp; try with_reducible rfl)
        try simp only [Act.put, List.setIfInBounds_toArray, List.set_cons_zero, List.set_cons_succ]
        refine wpAnyH_take (i := 5) (oi := o63_2_5) (v := ?v99) rfl (by kernel_rfl) (by kernel_rfl) (by kernel_rfl) (fun _ _ _ h => h) (Or.inl ⟨by rfl, ?h99⟩) hHeld ?r99
        case h99 => (intro w hSw; (try dsimp only at hSw); go_simp; try with_reducible rfl)
        try simp only [Act.put, List.setIfInBounds_toArray, List.set_cons_zero, List.set_cons_succ]
        refine wpAnyH_ready (rs := [4, 6]) (by kernel_rfl) (by simp) ?_
        refine (AllReadyH.cons (o := o63_2_4) rfl (fun K hK => ?yc101) (AllReadyH.cons (o := o63_2_6) rfl (fun K hK => ?yc100) AllReadyH.nil))
        case' yc101 =>
          go_simp
          clear hHeld
          refine hK.out _ _ trivial (fun hHeld => ?_)
          clear hK K
          try simp only [Act.put, List.setIfInBounds_toArray, List.set_cons_zero, List.set_cons_succ]
          refine wpAnyH_ready (rs := [6]) (by kernel_rfl) (by simp) ?_
          refine (AllReadyH.cons (o := o63_2_6) rfl (fun K hK => ?yc102) AllReadyH.nil)
          case' yc102 =>
            go_simp
            refine Calls.mono HCN.out ?_
            rintro e w1 ⟨ua, uc, rfl, hb1⟩
            dsimp only
            obtain ⟨⟨K1, K2⟩, hBA, hoA, hUP⟩ := HUP.out ua uc w1 hb1
            have HBA := (show Hid _ from hBA)
            have HOA := (show Hid _ from hoA)
            have HU2 := (show Hid _ from hUP)
            clear hBA hoA hUP hb1 K0
            clear hHeld
            refine hK.out _ _ trivial (fun hHeld => ?_)
            clear hK K
            try simp only [Act.put, List.setIfInBounds_toArray, List.set_cons_zero, List.set_cons_succ]
            refine wpAnyH_ready (rs := [7]) (by kernel_rfl) (by simp) ?_
            refine (AllReadyH.cons (o := o63_2_7) rfl (fun K hK => ?yc103) AllReadyH.nil)
            case' yc103 =>
              go_simp
              clear hHeld
              refine hK.out _ _ trivial (fun hHeld => ?_)
              clear hK K
              try simp only [Act.put, List.setIfInBounds_toArray, List.set_cons_zero, List.set_cons_succ]
              refine wpAnyH_ready (rs := [8]) (by kernel_rfl) (by simp) ?_
              refine (AllReadyH.cons (o := o63_2_8) rfl (fun K hK => ?yc104) AllReadyH.nil)
              case' yc104 =>
                (refine step_append_lies _ rfl (.tmp 22) (.tmp 25) 85 rfl B 138 i138 _ 1 24 Try.underlying85 hi138 hy0 hy1 hy2 rfl (by decide) (.slice ha' hn hac) hn hs (by simp [Act.eval, Act.put]) HOA.out ⟨w1.heap.size, 0, none⟩ 1 1 [.slice ua pn uc] (by simp [Act.eval, Act.put]) rfl (World.news_of_block (cs := #[.slice ua pn uc]) (blk_alloc_new _ _)) (by intro u hu; simp at hu; subst hu; rfl) (by decide) (by unfold maxLen; omega) (by omega) HBA.out (w1.heap.size + 1) (by simp) ?_; intro g5 c5 w5 e1 e2 e3 e4; obtain ⟨⟨B5, Z5⟩, ⟨B6, Z6⟩, T6, hfin⟩ := HU2.out g5 c5 w5 e1 e2 e3; have HFIN := (show Hid _ from hfin); clear e1 e2 e3 e4 hfin HU2 HOA HBA K1 K2)
                clear hHeld
                refine hK.out _ _ trivial (fun hHeld => ?_)
                clear hK K
                try simp only [Act.put, List.setIfInBounds_toArray, List.set_cons_zero, List.set_cons_succ]
                refine wpAnyH_take (i := 9) (oi := o63_2_9) (v := ?v105) rfl (by kernel_rfl) (by kernel_rfl) (by kernel_rfl) (fun _ _ _ h => h) (Or.inl ⟨by rfl, ?h105⟩) hHeld ?r105
                case h105 => (intro w hSw; (try dsimp only at hSw); go_simp; try with_reducible rfl)
                try simp only [Act.put, List.setIfInBounds_toArray, List.set_cons_zero, List.set_cons_succ]
                refine wpAnyH_take (i := 10) (oi := o63_2_10) (v := ?v106) rfl (by kernel_rfl) (by kernel_rfl) (by kernel_rfl) (fun _ _ _ h => h) (Or.inl ⟨by rfl, ?h106⟩) hHeld ?r106
                case h106 => (intro w hSw; (try dsimp only at hSw); go_simp; try with_reducible rfl)
                try simp only [Act.put, List.setIfInBounds_toArray, List.set_cons_zero, List.set_cons_succ]
                refine wpAnyH_ready (rs := [11]) (by kernel_rfl) (by simp) ?_
                refine (AllReadyH.cons (o := o63_2_11) rfl (fun K hK => ?yc107) AllReadyH.nil)
                case' yc107 =>
                  go_simp
                  clear hHeld
                  refine hK.out _ _ trivial (fun hHeld => ?_)
                  clear hK K
                  try simp only [Act.put, List.setIfInBounds_toArray, List.set_cons_zero, List.set_cons_succ]
                  refine wpAnyH_done (by kernel_rfl) ?_ _
                  (try refine NoPanic.normal ?_)
                  clear hHeld B5 Z5
                  go_wp2_with fail
                  go_ret
                  first | exact HFIN.out | (simpa [go_sem] using HFIN.out)
        case' yc100 =>
          go_simp
          refine Calls.mono HCN.out ?_
          rintro e w1 ⟨ua, uc, rfl, hb1⟩
          dsimp only
          obtain ⟨⟨K1, K2⟩, hBA, hoA, hUP⟩ := HUP.out ua uc w1 hb1
          have HBA := (show Hid _ from hBA)
          have HOA := (show Hid _ from hoA)
          have HU2 := (show Hid _ from hUP)
          clear hBA hoA hUP hb1 K0
          clear hHeld
          refine hK.out _ _ trivial (fun hHeld => ?_)
          clear hK K
          try simp only [Act.put, List.setIfInBounds_toArray, List.set_cons_zero, List.set_cons_succ]
          refine wpAnyH_ready (rs := [4, 7]) (by kernel_rfl) (by simp) ?_
          refine (AllReadyH.cons (o := o63_2_4) rfl (fun K hK => ?yc109) (AllReadyH.cons (o := o63_2_7) rfl (fun K hK => ?yc108) AllReadyH.nil))
          case' yc109 =>
            go_simp
            clear hHeld
            refine hK.out _ _ trivial (fun hHeld => ?_)
            clear hK K
            try simp only [Act.put, List.setIfInBounds_toArray, List.set_cons_zero, List.set_cons_succ]
            refine wpAnyH_ready (rs := [7]) (by kernel_rfl) (by simp) ?_
            refine (AllReadyH.cons (o := o63_2_7) rfl (fun K hK => ?yc110) AllReadyH.nil)
            case' yc110 =>
              go_simp
              clear hHeld
              refine hK.out _ _ trivial (fun hHeld => ?_)
              clear hK K
              try simp only [Act.put, List.setIfInBounds_toArray, List.set_cons_zero, List.set_cons_succ]
              refine wpAnyH_ready (rs := [8]) (by kernel_rfl) (by simp) ?_
              refine (AllReadyH.cons (o := o63_2_8) rfl (fun K hK => ?yc111) AllReadyH.nil)
              case' yc111 =>
                (refine step_append_lies _ rfl (.tmp 22) (.tmp 25) 85 rfl B 138 i138 _ 1 24 Try.underlying85 hi138 hy0 hy1 hy2 rfl (by decide) (.slice ha' hn hac) hn hs (by simp [Act.eval, Act.put]) HOA.out ⟨w1.heap.size, 0, none⟩ 1 1 [.slice ua pn uc] (by simp [Act.eval, Act.put]) rfl (World.news_of_block (cs := #[.slice ua pn uc]) (blk_alloc_new _ _)) (by intro u hu; simp at hu; subst hu; rfl) (by decide) (by unfold maxLen; omega) (by omega) HBA.out (w1.heap.size + 1) (by simp) ?_; intro g5 c5 w5 e1 e2 e3 e4; obtain ⟨⟨B5, Z5⟩, ⟨B6, Z6⟩, T6, hfin⟩ := HU2.out g5 c5 w5 e1 e2 e3; have HFIN := (show Hid _ from hfin); clear e1 e2 e3 e4 hfin HU2 HOA HBA K1 K2)
                clear hHeld
                refine hK.out _ _ trivial (fun hHeld => ?_)
                clear hK K
                try simp only [Act.put, List.setIfInBounds_toArray, List.set_cons_zero, List.set_cons_succ]
                refine wpAnyH_take (i := 9) (oi := o63_2_9) (v := ?v112) rfl (by kernel_rfl) (by kernel_rfl) (by kernel_rfl) (fun _ _ _ h => h) (Or.inl ⟨by rfl, ?h112⟩) hHeld ?r112
                case h112 => (intro w hSw; (try dsimp only at hSw); go_simp; try with_reducible rfl)
                try simp only [Act.put, List.setIfInBounds_toArray, List.set_cons_zero, List.set_cons_succ]
                refine wpAnyH_take (i := 10) (oi := o63_2_10) (v := ?v113) rfl (by kernel_rfl) (by kernel_rfl) (by kernel_rfl) (fun _ _ _ h => h) (Or.inl ⟨by rfl, ?h113⟩) hHeld ?r113
                case h113 => (intro w hSw; (try dsimp only at hSw); go_simp; try with_reducible rfl)
                try simp only [Act.put, List.setIfInBounds_toArray, List.set_cons_zero, List.set_cons_succ]
                refine wpAnyH_ready (rs := [11]) (by kernel_rfl) (by simp) ?_
                refine (AllReadyH.cons (o := o63_2_11) rfl (fun K hK => ?yc114) AllReadyH.nil)
                case' yc114 =>
                  go_simp
                  clear hHeld
                  refine hK.out _ _ trivial (fun hHeld => ?_)
                  clear hK K
                  try simp only [Act.put, List.setIfInBounds_toArray, List.set_cons_zero, List.set_cons_succ]
                  refine wpAnyH_done (by kernel_rfl) ?_ _
                  (try refine NoPanic.normal ?_)
                  clear hHeld B5 Z5
                  go_wp2_with fail
                  go_ret
                  first | exact HFIN.out | (simpa [go_sem] using HFIN.out)
          case' yc108 =>
            go_simp
            clear hHeld
            refine hK.out _ _ trivial (fun hHeld => ?_)
            clear hK K
            try simp only [Act.put, List.setIfInBounds_toArray, List.set_cons_zero, List.set_cons_succ]
            refine wpAnyH_ready (rs := [4]) (by kernel_rfl) (by simp) ?_
            refine (AllReadyH.cons (o := o63_2_4) rfl (fun K hK => ?yc115) AllReadyH.nil)
            case' yc115 =>
              go_simp
              clear hHeld
              refine hK.out _ _ trivial (fun hHeld => ?_)
              clear hK K
              try simp only [Act.put, List.setIfInBounds_toArray, List.set_cons_zero, List.set_cons_succ]
              refine wpAnyH_ready (rs := [8]) (by kernel_rfl) (by simp) ?_
              refine (AllReadyH.cons (o := o63_2_8) rfl (fun K hK => ?yc116) AllReadyH.nil)
              case' yc116 =>
                (refine step_append_lies _ rfl (.tmp 22) (.tmp 25) 85 rfl B 138 i138 _ 1 24 Try.underlying85 hi138 hy0 hy1 hy2 rfl (by decide) (.slice ha' hn hac) hn hs (by simp [Act.eval, Act.put]) HOA.out ⟨w1.heap.size, 0, none⟩ 1 1 [.slice ua pn uc] (by simp [Act.eval, Act.put]) rfl (World.news_of_block (cs := #[.slice ua pn uc]) (blk_alloc_new _ _)) (by intro u hu; simp at hu; subst hu; rfl) (by decide) (by unfold maxLen; omega) (by omega) HBA.out (w1.heap.size + 1) (by simp) ?_; intro g5 c5 w5 e1 e2 e3 e4; obtain ⟨⟨B5, Z5⟩, ⟨B6, Z6⟩, T6, hfin⟩ := HU2.out g5 c5 w5 e1 e2 e3; have HFIN := (show Hid _ from hfin); clear e1 e2 e3 e4 hfin HU2 HOA HBA K1 K2)
                clear hHeld
                refine hK.out _ _ trivial (fun hHeld => ?_)
                clear hK K
                try simp only [Act.put, List.setIfInBounds_toArray, List.set_cons_zero, List.set_cons_succ]
                refine wpAnyH_take (i := 9) (oi := o63_2_9) (v := ?v117) rfl (by kernel_rfl) (by kernel_rfl) (by kernel_rfl) (fun _ _ _ h => h) (Or.inl ⟨by rfl, ?h117⟩) hHeld ?r117
                case h117 => (intro w hSw; (try dsimp only at hSw); go_simp; try with_reducible rfl)
                try simp only [Act.put, List.setIfInBounds_toArray, List.set_cons_zero, List.set_cons_succ]
                refine wpAnyH_take (i := 10) (oi := o63_2_10) (v := ?v118) rfl (by kernel_rfl) (by kernel_rfl) (by kernel_rfl) (fun _ _ _ h => h) (Or.inl ⟨by rfl, ?h118⟩) hHeld ?r118
                case h118 => (intro w hSw; (try dsimp only at hSw); go_simp; try with_reducible rfl)
                try simp only [Act.put, List.setIfInBounds_toArray, List.set_cons_zero, List.set_cons_succ]
                refine wpAnyH_ready (rs := [11]) (by kernel_rfl) (by simp) ?_
                refine (AllReadyH.cons (o := o63_2_11) rfl (fun K hK => ?yc119) AllReadyH.nil)
                case' yc119 =>
                  go_simp
                  clear hHeld
                  refine hK.out _ _ trivial (fun hHeld => ?_)
                  clear hK K
                  try simp only [Act.put, List.setIfInBounds_toArray, List.set_cons_zero, List.set_cons_succ]
                  refine wpAnyH_done (by kernel_rfl) ?_ _
                  (try refine NoPanic.normal ?_)
                  clear hHeld B5 Z5
                  go_wp2_with fail
                  go_ret
                  first | exact HFIN.out | (simpa [go_sem] using HFIN.out)
      cases hem : x.toList.isEmpty
      case false =>
        have HEM := (show Hid _ from hem)
        have HUP := (show Hid (∀ (ua : Option Addr) (uc : Nat) (w1 : World), Below (w.alloc (.cells #[.string n, .string x, .bool true, .slice a k.length cap] 42)).drew.heap.size (w.alloc (.cells #[.string n, .string x, .bool true, .slice a k.length cap] 42)).drew w1 → (w1.cell? ⟨b, 2, none⟩ = some (.slice ha' hn hac) ∧ (w1.alloc (.cells #[.slice ua pn uc] 138)).cell? ⟨b, 2, none⟩ = some (.slice ha' hn hac)) ∧ B ≤ (w1.alloc (.cells #[.slice ua pn uc] 138)).heap.size ∧ (w1.alloc (.cells #[.slice ua pn uc] 138)).ownsRow B 138 1 (.slice ha' hn hac) hn hs ∧ ∀ (g5 c5 : Nat) (w5 : World), w5.ownsRow B 138 1 (.slice (some ⟨g5, 0, none⟩) (hn + 1) c5) (hn + 1) (hs ++ [.slice ua pn uc]) → (w1.alloc (.cells #[.slice ua pn uc] 138)).grownBy w5 (Value.slice ha' hn hac).ownBlock → ((Value.slice ha' hn hac).ownBlock = some g5 ∨ g5 = w1.heap.size + 1) → (w5.cell? ⟨b, 2, none⟩ = some (.slice ha' hn hac) ∧ w5.frozen? ⟨b, 2, none⟩ = false) ∧ ((w5.setCell ⟨b, 2, none⟩ (.slice (some ⟨g5, 0, none⟩) (hn + 1) c5)).cell? ⟨b, 3, none⟩ = some (.bool false) ∧ (w5.setCell ⟨b, 2, none⟩ (.slice (some ⟨g5, 0, none⟩) (hn + 1) c5)).frozen? ⟨b, 3, none⟩ = false) ∧ (w5.setCell ⟨b, 2, none⟩ (.slice (some ⟨g5, 0, none⟩) (hn + 1) c5)).cell? ⟨w.heap.size, 1, none⟩ = some (.string x) ∧ PaA B b m ks hn false uv (.slice ha' hn hac) (.slice pa pn pc) pn xs ⟨n, x, true, k⟩ w (.returned (.pointer (some ⟨w5.heap.size, 0, none⟩))) (((w5.setCell ⟨b, 2, none⟩ (.slice (some ⟨g5, 0, none⟩) (hn + 1) c5)).setCell ⟨b, 3, none⟩ (.bool true)).alloc (.cells #[.string ByteArray.empty, .string ByteArray.empty, .bool false, .int .i64 2, .int .i64 0, .slice none 0 0] 129))) from fun ua uc w1 hb1 => by
          have hz0 : (w.alloc (.cells #[.string n, .string x, .bool true, .slice a k.length cap] 42)).drew.heap.size = w.heap.size + 1 := by simp
          have hz1 := hb1.size
          have hbw1 : Below w.heap.size w w1 := (((bel_alloc w (.cells #[.string n, .string x, .bool true, .slice a k.length cap] 42)).drew)).trans (hb1.mono (by simp))
          have bA := bel_alloc w1 (.cells #[.slice ua pn uc] 138)
          have hbwA := bel_trans hbw1 bA
          have r1 := HR.out.still hbw1
          have rA := r1.still bA
          have bt1 : Box w1 w.heap.size 42 [.string n, .string x, .bool true, .slice a k.length cap] := ((Box.new w 42 _).still ((Below.refl _ _).drew)).still hb1
          have btA := bt1.still bA
          have oA : (w1.alloc (.cells #[.slice ua pn uc] 138)).ownsRow B 138 1 (.slice ha' hn hac) hn hs := own_keep1 HRH.out (fun q hq => hbwA.block q (World.ownsRow.lt HRH.out q hq).2)
          refine ⟨⟨r1.bx.cell 2 (by simp), rA.bx.cell 2 (by simp)⟩, by have := HBB.out; have := hbwA.size; omega, oA, fun g5 c5 w5 e1 e2 e3 => ?_⟩
          have hzA : (w1.alloc (.cells #[.slice ua pn uc] 138)).heap.size = w1.heap.size + 1 := by simp
          have hz5 := e2.size
          have hbw : b < w.heap.size := HR.out.bx.lt
          have hmw : m < w.heap.size := HR.out.mp.lt
          have f5 : Fm (fun q => (Value.slice ha' hn hac).ownBlock = some q) w w5 := (Fm.of_below hbwA).trans (Fm.of_grown (T := fun q => (Value.slice ha' hn hac).ownBlock = some q) e2 (fun q hq => hq)) (fun _ _ e => e)
          have hn3 := HR.out.n3
          have b5 : Box w5 b 112 [.map (some m), uv, (.slice ha' hn hac), .bool false] := HR.out.bx.fm f5 (fun e => (hn3 b e).1 rfl)
          have t5 : Box w5 w.heap.size 42 [.string n, .string x, .bool true, .slice a k.length cap] := btA.keep (e2.block _ (by have := btA.lt; omega) (fun e => by have := (HR.out.uhl _ e.symm).2; omega))
          have m5 : Mn w5 m 9 (strs ks) := HR.out.mp.keep (f5.block m hmw (fun e => (hn3 m e).2.1 rfl))
          obtain ⟨bs, q1, q2⟩ := HR.out.rv
          have v5 : w5.ownsRow B 4 1 uv ks.length bs := own_keep1 q2 (fun q hq => f5.block q (q2.lt q hq).2 (fun e => (hn3 q e).2.2 hq))
          have p5 : w5.ownsRow B 3 1 (.slice pa pn pc) pn xs := own_keep1 HPW.out (fun q hq => f5.block q (World.ownsRow.lt HPW.out q hq).2 (fun e => (HPD.out q hq).2.2.2 e))
          have hg : g5 ≠ b ∧ g5 ≠ m ∧ uv.ownBlock ≠ some g5 ∧ (w.heap.size ≤ g5 ∨ (Value.slice ha' hn hac).ownBlock = some g5) := by
            rcases e3 with e | e
            · have := hn3 g5 e
              exact ⟨this.1, this.2.1, this.2.2, .inr e⟩
            · refine ⟨by omega, by omega, fun e2 => ?_, .inl (by omega)⟩
              have := (HR.out.uvl g5 e2).2
              omega
          have kS : ∀ q, q ≠ b → (w5.setCell ⟨b, 2, none⟩ (.slice (some ⟨g5, 0, none⟩) (hn + 1) c5)).heap[q]? = w5.heap[q]? := fun q hq => blk_setCell_other _ _ _ _ (by show q ≠ b; exact hq)
          have kS2 : ∀ q, q ≠ b → ((w5.setCell ⟨b, 2, none⟩ (.slice (some ⟨g5, 0, none⟩) (hn + 1) c5)).setCell ⟨b, 3, none⟩ (.bool true)).heap[q]? = w5.heap[q]? := fun q hq => (blk_setCell_other _ _ _ _ (by show q ≠ b; exact hq)).trans (kS q hq)
          have b6 := b5.set 2 (.slice (some ⟨g5, 0, none⟩) (hn + 1) c5)
          have b6' : Box (w5.setCell ⟨b, 2, none⟩ (.slice (some ⟨g5, 0, none⟩) (hn + 1) c5)) b 112 [.map (some m), uv, .slice (some ⟨g5, 0, none⟩) (hn + 1) c5, .bool false] := b6
          have b7 : Box ((w5.setCell ⟨b, 2, none⟩ (.slice (some ⟨g5, 0, none⟩) (hn + 1) c5)).setCell ⟨b, 3, none⟩ (.bool true)) b 112 [.map (some m), uv, .slice (some ⟨g5, 0, none⟩) (hn + 1) c5, .bool true] := b6'.set 3 (.bool true)
          refine ⟨⟨b5.cell 2 (by simp), b5.frozen 2⟩, ⟨b6'.cell 3 (by simp), b6'.frozen 3⟩, (t5.keep (kS _ (by omega))).cell 1 (by simp), ?_⟩
          have bN := bel_alloc ((w5.setCell ⟨b, 2, none⟩ (.slice (some ⟨g5, 0, none⟩) (hn + 1) c5)).setCell ⟨b, 3, none⟩ (.bool true)) (.cells #[.string ByteArray.empty, .string ByteArray.empty, .bool false, .int .i64 2, .int .i64 0, .slice none 0 0] 129)
          have hzF : ((w5.setCell ⟨b, 2, none⟩ (.slice (some ⟨g5, 0, none⟩) (hn + 1) c5)).setCell ⟨b, 3, none⟩ (.bool true)).heap.size = w5.heap.size := by simp
          have hzw : w.heap.size < w5.heap.size := t5.lt
          have hs5 : (false || pf ⟨n, x, true, k⟩) = true := by rw [Bool.false_or, pf_mk, if_pos HHO.out]; unfold emB; rw [← isEmpty_iff, HEM.out]; rfl
          refine ⟨w5.heap.size, uv, .slice (some ⟨g5, 0, none⟩) (hn + 1) c5, ByteArray.empty, ByteArray.empty, false, 0, .slice none 0 0, rfl, by omega, ?_, ?_, ?_, ?_, At1.refl _ _, ?_, fun e => ?_, fun e => ?_⟩
          · have e : kd n true = 2 := by unfold kd; rw [if_pos HHO.out]
            have h := Box.new ((w5.setCell ⟨b, 2, none⟩ (.slice (some ⟨g5, 0, none⟩) (hn + 1) c5)).setCell ⟨b, 3, none⟩ (.bool true)) 129 [.string ByteArray.empty, .string ByteArray.empty, .bool false, .int .i64 2, .int .i64 0, .slice none 0 0]
            rw [hzF] at h
            dsimp only
            rw [e]
            exact h
          · have e1' : pv ⟨n, x, true, k⟩ ks = ks := by rw [pv_mk, if_pos HHO.out]
            have e2' : ph ⟨n, x, true, k⟩ = 1 := by rw [ph_mk, if_pos HHO.out]
            have e3' : (false || pf ⟨n, x, true, k⟩) = true := hs5
            rw [e1', e2', e3']
            have rr : Rs ((w5.setCell ⟨b, 2, none⟩ (.slice (some ⟨g5, 0, none⟩) (hn + 1) c5)).setCell ⟨b, 3, none⟩ (.bool true)) B b m ks (hn + 1) true uv (.slice (some ⟨g5, 0, none⟩) (hn + 1) c5) := ⟨b7, m5.keep (kS2 _ (Ne.symm HR.out.n1)), ⟨bs, q1, own_keep1 v5 (fun q hq => kS2 q (HR.out.n2 q hq).1)⟩, ⟨_, own_keep1 e1 (fun q hq => kS2 q (by
              have : g5 = q := by simpa [Value.ownBlock] using hq
              rw [← this]; exact hg.1))⟩, HR.out.hb, HR.out.hm, HR.out.n1, HR.out.n2, fun q hq => by
              have : g5 = q := by simpa [Value.ownBlock] using hq
              rw [← this]; exact ⟨hg.1, hg.2.1, hg.2.2.1⟩⟩
            exact rr.still bN
          · have g5a : Fm (To b m uv (.slice ha' hn hac) (.slice pa pn pc)) w w5 := ⟨f5.os, f5.tape, f5.output, f5.size, fun q hq hn => f5.block q hq (fun e => hn (.inr (.inr (.inr (.inl e)))))⟩
            exact ((g5a.trans (T' := fun q => q = b) (Fm.set rfl) (fun q _ e => .inl e)).trans (T' := fun q => q = b) (Fm.set rfl) (fun q _ e => .inl e)).still bN
          · exact own_still (own_keep1 p5 (fun q hq => kS2 q (HPD.out q hq).1)) bN
          · rcases e3 with e | e
            · exact .inl e.symm
            · exact .inr ⟨g5, rfl, by omega⟩
          · have := (HR.out.uvl _ e).2; omega
          · have : g5 = w5.heap.size := by simpa [Value.ownBlock] using e
            have := (e1.lt g5 rfl).2
            omega)
        have K0 : (w.alloc (.cells #[.string n, .string x, .bool true, .slice a k.length cap] 42)).drew.cell? ⟨b, 2, none⟩ = some (.slice ha' hn hac) := (HR.out.still (bel_alloc _ _)).bx.cell 2 (by simp)
        have HCN := (show Hid _ from clone70 xs pn (.slice pa pn pc) (w.alloc (.cells #[.string n, .string x, .bool true, .slice a k.length cap] 42)).drew (own_keep1 HPW.out (fun q hq => ((bel_alloc w (.cells #[.string n, .string x, .bool true, .slice a k.length cap] 42)).drew).block q (World.ownsRow.lt HPW.out q hq).2)) HON.out (by omega))
        go_enter Try.func63, Try.ntmps63
        go_wp2_with fail
        refine wp_region_held_drew (S := (fun _ => True)) (by kernel_rfl) trivial (fun hHeld => ?_)
        refine wpAnyH_take (i := 0) (oi := o63_2_0) (v := ?v120) rfl (by kernel_rfl) (by kernel_rfl) (by kernel_rfl) (fun _ _ _ h => h) (Or.inl ⟨by rfl, ?h120⟩) hHeld ?r120
        case h120 => (intro w hSw; (try dsimp only at hSw); go_simp; try with_reducible rfl)
        try simp only [Act.put, List.setIfInBounds_toArray, List.set_cons_zero, List.set_cons_succ]
        refine wpAnyH_take (i := 1) (oi := o63_2_1) (v := ?v121) rfl (by kernel_rfl) (by kernel_rfl) (by kernel_rfl) (fun _ _ _ h => h) (Or.inl ⟨by rfl, ?h121⟩) hHeld ?r121
        case h121 => (intro w hSw; (try dsimp only at hSw); go_simp; try with_reducible rfl)
        try simp only [Act.put, List.setIfInBounds_toArray, List.set_cons_zero, List.set_cons_succ]
        refine wpAnyH_take (i := 2) (oi := o63_2_2) (v := ?v122) rfl (by kernel_rfl) (by kernel_rfl) (by kernel_rfl) (fun _ _ _ h => h) (Or.inl ⟨by rfl, ?h122⟩) hHeld ?r122
        case h122 => (intro w hSw; (try dsimp only at hSw); go_simp; try with_reducible rfl)
        try simp only [Act.put, List.setIfInBounds_toArray, List.set_cons_zero, List.set_cons_succ]
        refine wpAnyH_take (i := 3) (oi := o63_2_3) (v := ?v123) rfl (by kernel_rfl) (by kernel_rfl) (by kernel_rfl) (fun _ _ _ h => h) (Or.inl ⟨by rfl, ?h123⟩) hHeld ?r123
        case h123 => (intro w hSw; (try dsimp only at hSw); go_simp; try with_reducible rfl)
        try simp only [Act.put, List.setIfInBounds_toArray, List.set_cons_zero, List.set_cons_succ]
        refine wpAnyH_take (i := 5) (oi := o63_2_5) (v := ?v124) rfl (by kernel_rfl) (by kernel_rfl) (by kernel_rfl) (fun _ _ _ h => h) (Or.inl ⟨by rfl, ?h124⟩) hHeld ?r124
        case h124 => (intro w hSw; (try dsimp only at hSw); go_simp; try with_reducible rfl)
        try simp only [Act.put, List.setIfInBounds_toArray, List.set_cons_zero, List.set_cons_succ]
        refine wpAnyH_ready (rs := [4, 6]) (by kernel_rfl) (by simp) ?_
        refine (AllReadyH.cons (o := o63_2_4) rfl (fun K hK => ?yc126) (AllReadyH.cons (o := o63_2_6) rfl (fun K hK => ?yc125) AllReadyH.nil))
        case' yc126 =>
          go_simp
          clear hHeld
          refine hK.out _ _ trivial (fun hHeld => ?_)
          clear hK K
          try simp only [Act.put, List.setIfInBounds_toArray, List.set_cons_zero, List.set_cons_succ]
          refine wpAnyH_ready (rs := [6]) (by kernel_rfl) (by simp) ?_
          refine (AllReadyH.cons (o := o63_2_6) rfl (fun K hK => ?yc127) AllReadyH.nil)
          case' yc127 =>
            go_simp
            refine Calls.mono HCN.out ?_
            rintro e w1 ⟨ua, uc, rfl, hb1⟩
            dsimp only
            obtain ⟨⟨K1, K2⟩, hBA, hoA, hUP⟩ := HUP.out ua uc w1 hb1
            have HBA := (show Hid _ from hBA)
            have HOA := (show Hid _ from hoA)
            have HU2 := (show Hid _ from hUP)
            clear hBA hoA hUP hb1 K0
            clear hHeld
            refine hK.out _ _ trivial (fun hHeld => ?_)
            clear hK K
            try simp only [Act.put, List.setIfInBounds_toArray, List.set_cons_zero, List.set_cons_succ]
            refine wpAnyH_ready (rs := [7]) (by kernel_rfl) (by simp) ?_
            refine (AllReadyH.cons (o := o63_2_7) rfl (fun K hK => ?yc128) AllReadyH.nil)
            case' yc128 =>
              go_simp
              clear hHeld
              refine hK.out _ _ trivial (fun hHeld => ?_)
              clear hK K
              try simp only [Act.put, List.setIfInBounds_toArray, List.set_cons_zero, List.set_cons_succ]
              refine wpAnyH_ready (rs := [8]) (by kernel_rfl) (by simp) ?_
              refine (AllReadyH.cons (o := o63_2_8) rfl (fun K hK => ?yc129) AllReadyH.nil)
              case' yc129 =>
                (refine step_append_lies _ rfl (.tmp 22) (.tmp 25) 85 rfl B 138 i138 _ 1 24 Try.underlying85 hi138 hy0 hy1 hy2 rfl (by decide) (.slice ha' hn hac) hn hs (by simp [Act.eval, Act.put]) HOA.out ⟨w1.heap.size, 0, none⟩ 1 1 [.slice ua pn uc] (by simp [Act.eval, Act.put]) rfl (World.news_of_block (cs := #[.slice ua pn uc]) (blk_alloc_new _ _)) (by intro u hu; simp at hu; subst hu; rfl) (by decide) (by unfold maxLen; omega) (by omega) HBA.out (w1.heap.size + 1) (by simp) ?_; intro g5 c5 w5 e1 e2 e3 e4; obtain ⟨⟨B5, Z5⟩, ⟨B6, Z6⟩, T6, hfin⟩ := HU2.out g5 c5 w5 e1 e2 e3; have HFIN := (show Hid _ from hfin); clear e1 e2 e3 e4 hfin HU2 HOA HBA K1 K2)
                clear hHeld
                refine hK.out _ _ trivial (fun hHeld => ?_)
                clear hK K
                try simp only [Act.put, List.setIfInBounds_toArray, List.set_cons_zero, List.set_cons_succ]
                refine wpAnyH_take (i := 9) (oi := o63_2_9) (v := ?v130) rfl (by kernel_rfl) (by kernel_rfl) (by kernel_rfl) (fun _ _ _ h => h) (Or.inl ⟨by rfl, ?h130⟩) hHeld ?r130
                case h130 => (intro w hSw; (try dsimp only at hSw); go_simp; try with_reducible rfl)
                try simp only [Act.put, List.setIfInBounds_toArray, List.set_cons_zero, List.set_cons_succ]
                refine wpAnyH_take (i := 10) (oi := o63_2_10) (v := ?v131) rfl (by kernel_rfl) (by kernel_rfl) (by kernel_rfl) (fun _ _ _ h => h) (Or.inl ⟨by rfl, ?h131⟩) hHeld ?r131
                case h131 => (intro w hSw; (try dsimp only at hSw); go_simp; try with_reducible rfl)
                try simp only [Act.put, List.setIfInBounds_toArray, List.set_cons_zero, List.set_cons_succ]
                refine wpAnyH_ready (rs := [11]) (by kernel_rfl) (by simp) ?_
                refine (AllReadyH.cons (o := o63_2_11) rfl (fun K hK => ?yc132) AllReadyH.nil)
                case' yc132 =>
                  go_simp
                  clear hHeld
                  refine hK.out _ _ trivial (fun hHeld => ?_)
                  clear hK K
                  try simp only [Act.put, List.setIfInBounds_toArray, List.set_cons_zero, List.set_cons_succ]
                  refine wpAnyH_done (by kernel_rfl) ?_ _
                  (try refine NoPanic.normal ?_)
                  clear hHeld B5 Z5
                  go_wp2_with fail
                  go_ret
                  first | exact HFIN.out | (simpa [go_sem] using HFIN.out)
        case' yc125 =>
          go_simp
          refine Calls.mono HCN.out ?_
          rintro e w1 ⟨ua, uc, rfl, hb1⟩
          dsimp only
          obtain ⟨⟨K1, K2⟩, hBA, hoA, hUP⟩ := HUP.out ua uc w1 hb1
          have HBA := (show Hid _ from hBA)
          have HOA := (show Hid _ from hoA)
          have HU2 := (show Hid _ from hUP)
          clear hBA hoA hUP hb1 K0
          clear hHeld
          refine hK.out _ _ trivial (fun hHeld => ?_)
          clear hK K
          try simp only [Act.put, List.setIfInBounds_toArray, List.set_cons_zero, List.set_cons_succ]
          refine wpAnyH_ready (rs := [4, 7]) (by kernel_rfl) (by simp) ?_
          refine (AllReadyH.cons (o := o63_2_4) rfl (fun K hK => ?yc134) (AllReadyH.cons (o := o63_2_7) rfl (fun K hK => ?yc133) AllReadyH.nil))
          case' yc134 =>
            go_simp
            clear hHeld
            refine hK.out _ _ trivial (fun hHeld => ?_)
            clear hK K
            try simp only [Act.put, List.setIfInBounds_toArray, List.set_cons_zero, List.set_cons_succ]
            refine wpAnyH_ready (rs := [7]) (by kernel_rfl) (by simp) ?_
            refine (AllReadyH.cons (o := o63_2_7) rfl (fun K hK => ?yc135) AllReadyH.nil)
            case' yc135 =>
              go_simp
              clear hHeld
              refine hK.out _ _ trivial (fun hHeld => ?_)
              clear hK K
              try simp only [Act.put, List.setIfInBounds_toArray, List.set_cons_zero, List.set_cons_succ]
              refine wpAnyH_ready (rs := [8]) (by kernel_rfl) (by simp) ?_
              refine (AllReadyH.cons (o := o63_2_8) rfl (fun K hK => ?yc136) AllReadyH.nil)
              case' yc136 =>
                (refine step_append_lies _ rfl (.tmp 22) (.tmp 25) 85 rfl B 138 i138 _ 1 24 Try.underlying85 hi138 hy0 hy1 hy2 rfl (by decide) (.slice ha' hn hac) hn hs (by simp [Act.eval, Act.put]) HOA.out ⟨w1.heap.size, 0, none⟩ 1 1 [.slice ua pn uc] (by simp [Act.eval, Act.put]) rfl (World.news_of_block (cs := #[.slice ua pn uc]) (blk_alloc_new _ _)) (by intro u hu; simp at hu; subst hu; rfl) (by decide) (by unfold maxLen; omega) (by omega) HBA.out (w1.heap.size + 1) (by simp) ?_; intro g5 c5 w5 e1 e2 e3 e4; obtain ⟨⟨B5, Z5⟩, ⟨B6, Z6⟩, T6, hfin⟩ := HU2.out g5 c5 w5 e1 e2 e3; have HFIN := (show Hid _ from hfin); clear e1 e2 e3 e4 hfin HU2 HOA HBA K1 K2)
                clear hHeld
                refine hK.out _ _ trivial (fun hHeld => ?_)
                clear hK K
                try simp only [Act.put, List.setIfInBounds_toArray, List.set_cons_zero, List.set_cons_succ]
                refine wpAnyH_take (i := 9) (oi := o63_2_9) (v := ?v137) rfl (by kernel_rfl) (by kernel_rfl) (by kernel_rfl) (fun _ _ _ h => h) (Or.inl ⟨by rfl, ?h137⟩) hHeld ?r137
                case h137 => (intro w hSw; (try dsimp only at hSw); go_simp; try with_reducible rfl)
                try simp only [Act.put, List.setIfInBounds_toArray, List.set_cons_zero, List.set_cons_succ]
                refine wpAnyH_take (i := 10) (oi := o63_2_10) (v := ?v138) rfl (by kernel_rfl) (by kernel_rfl) (by kernel_rfl) (fun _ _ _ h => h) (Or.inl ⟨by rfl, ?h138⟩) hHeld ?r138
                case h138 => (intro w hSw; (try dsimp only at hSw); go_simp; try with_reducible rfl)
                try simp only [Act.put, List.setIfInBounds_toArray, List.set_cons_zero, List.set_cons_succ]
                refine wpAnyH_ready (rs := [11]) (by kernel_rfl) (by simp) ?_
                refine (AllReadyH.cons (o := o63_2_11) rfl (fun K hK => ?yc139) AllReadyH.nil)
                case' yc139 =>
                  go_simp
                  clear hHeld
                  refine hK.out _ _ trivial (fun hHeld => ?_)
                  clear hK K
                  try simp only [Act.put, List.setIfInBounds_toArray, List.set_cons_zero, List.set_cons_succ]
                  refine wpAnyH_done (by kernel_rfl) ?_ _
                  (try refine NoPanic.normal ?_)
                  clear hHeld B5 Z5
                  go_wp2_with fail
                  go_ret
                  first | exact HFIN.out | (simpa [go_sem] using HFIN.out)
          case' yc133 =>
            go_simp
            clear hHeld
            refine hK.out _ _ trivial (fun hHeld => ?_)
            clear hK K
            try simp only [Act.put, List.setIfInBounds_toArray, List.set_cons_zero, List.set_cons_succ]
            refine wpAnyH_ready (rs := [4]) (by kernel_rfl) (by simp) ?_
            refine (AllReadyH.cons (o := o63_2_4) rfl (fun K hK => ?yc140) AllReadyH.nil)
            case' yc140 =>
              go_simp
              clear hHeld
              refine hK.out _ _ trivial (fun hHeld => ?_)
              clear hK K
              try simp only [Act.put, List.setIfInBounds_toArray, List.set_cons_zero, List.set_cons_succ]
              refine wpAnyH_ready (rs := [8]) (by kernel_rfl) (by simp) ?_
              refine (AllReadyH.cons (o := o63_2_8) rfl (fun K hK => ?yc141) AllReadyH.nil)
              case' yc141 =>
                (refine step_append_lies _ rfl (.tmp 22) (.tmp 25) 85 rfl B 138 i138 _ 1 24 Try.underlying85 hi138 hy0 hy1 hy2 rfl (by decide) (.slice ha' hn hac) hn hs (by simp [Act.eval, Act.put]) HOA.out ⟨w1.heap.size, 0, none⟩ 1 1 [.slice ua pn uc] (by simp [Act.eval, Act.put]) rfl (World.news_of_block (cs := #[.slice ua pn uc]) (blk_alloc_new _ _)) (by intro u hu; simp at hu; subst hu; rfl) (by decide) (by unfold maxLen; omega) (by omega) HBA.out (w1.heap.size + 1) (by simp) ?_; intro g5 c5 w5 e1 e2 e3 e4; obtain ⟨⟨B5, Z5⟩, ⟨B6, Z6⟩, T6, hfin⟩ := HU2.out g5 c5 w5 e1 e2 e3; have HFIN := (show Hid _ from hfin); clear e1 e2 e3 e4 hfin HU2 HOA HBA K1 K2)
                clear hHeld
                refine hK.out _ _ trivial (fun hHeld => ?_)
                clear hK K
                try simp only [Act.put, List.setIfInBounds_toArray, List.set_cons_zero, List.set_cons_succ]
                refine wpAnyH_take (i := 9) (oi := o63_2_9) (v := ?v142) rfl (by kernel_rfl) (by kernel_rfl) (by kernel_rfl) (fun _ _ _ h => h) (Or.inl ⟨by rfl, ?h142⟩) hHeld ?r142
                case h142 => (intro w hSw; (try dsimp only at hSw); go_simp; try with_reducible rfl)
                try simp only [Act.put, List.setIfInBounds_toArray, List.set_cons_zero, List.set_cons_succ]
                refine wpAnyH_take (i := 10) (oi := o63_2_10) (v := ?v143) rfl (by kernel_rfl) (by kernel_rfl) (by kernel_rfl) (fun _ _ _ h => h) (Or.inl ⟨by rfl, ?h143⟩) hHeld ?r143
                case h143 => (intro w hSw; (try dsimp only at hSw); go_simp; try with_reducible rfl)
                try simp only [Act.put, List.setIfInBounds_toArray, List.set_cons_zero, List.set_cons_succ]
                refine wpAnyH_ready (rs := [11]) (by kernel_rfl) (by simp) ?_
                refine (AllReadyH.cons (o := o63_2_11) rfl (fun K hK => ?yc144) AllReadyH.nil)
                case' yc144 =>
                  go_simp
                  clear hHeld
                  refine hK.out _ _ trivial (fun hHeld => ?_)
                  clear hK K
                  try simp only [Act.put, List.setIfInBounds_toArray, List.set_cons_zero, List.set_cons_succ]
                  refine wpAnyH_done (by kernel_rfl) ?_ _
                  (try refine NoPanic.normal ?_)
                  clear hHeld B5 Z5
                  go_wp2_with fail
                  go_ret
                  first | exact HFIN.out | (simpa [go_sem] using HFIN.out)
      case true =>
        have HEM := (show Hid _ from hem)
        have HUP := (show Hid (∀ (ua : Option Addr) (uc : Nat) (w1 : World), Below (w.alloc (.cells #[.string n, .string x, .bool true, .slice a k.length cap] 42)).drew.heap.size (w.alloc (.cells #[.string n, .string x, .bool true, .slice a k.length cap] 42)).drew w1 → (w1.cell? ⟨b, 2, none⟩ = some (.slice ha' hn hac) ∧ (w1.alloc (.cells #[.slice ua pn uc] 138)).cell? ⟨b, 2, none⟩ = some (.slice ha' hn hac)) ∧ B ≤ (w1.alloc (.cells #[.slice ua pn uc] 138)).heap.size ∧ (w1.alloc (.cells #[.slice ua pn uc] 138)).ownsRow B 138 1 (.slice ha' hn hac) hn hs ∧ ∀ (g5 c5 : Nat) (w5 : World), w5.ownsRow B 138 1 (.slice (some ⟨g5, 0, none⟩) (hn + 1) c5) (hn + 1) (hs ++ [.slice ua pn uc]) → (w1.alloc (.cells #[.slice ua pn uc] 138)).grownBy w5 (Value.slice ha' hn hac).ownBlock → ((Value.slice ha' hn hac).ownBlock = some g5 ∨ g5 = w1.heap.size + 1) → (w5.cell? ⟨b, 2, none⟩ = some (.slice ha' hn hac) ∧ w5.frozen? ⟨b, 2, none⟩ = false) ∧ ((w5.setCell ⟨b, 2, none⟩ (.slice (some ⟨g5, 0, none⟩) (hn + 1) c5)).cell? ⟨b, 3, none⟩ = some (.bool false) ∧ (w5.setCell ⟨b, 2, none⟩ (.slice (some ⟨g5, 0, none⟩) (hn + 1) c5)).frozen? ⟨b, 3, none⟩ = false) ∧ (w5.setCell ⟨b, 2, none⟩ (.slice (some ⟨g5, 0, none⟩) (hn + 1) c5)).cell? ⟨w.heap.size, 1, none⟩ = some (.string x) ∧ PaA B b m ks hn false uv (.slice ha' hn hac) (.slice pa pn pc) pn xs ⟨n, x, true, k⟩ w (.returned (.pointer (some ⟨w5.heap.size, 0, none⟩))) (((w5.setCell ⟨b, 2, none⟩ (.slice (some ⟨g5, 0, none⟩) (hn + 1) c5)).setCell ⟨b, 3, none⟩ (.bool false)).alloc (.cells #[.string ByteArray.empty, .string ByteArray.empty, .bool false, .int .i64 2, .int .i64 0, .slice none 0 0] 129))) from fun ua uc w1 hb1 => by
          have hz0 : (w.alloc (.cells #[.string n, .string x, .bool true, .slice a k.length cap] 42)).drew.heap.size = w.heap.size + 1 := by simp
          have hz1 := hb1.size
          have hbw1 : Below w.heap.size w w1 := (((bel_alloc w (.cells #[.string n, .string x, .bool true, .slice a k.length cap] 42)).drew)).trans (hb1.mono (by simp))
          have bA := bel_alloc w1 (.cells #[.slice ua pn uc] 138)
          have hbwA := bel_trans hbw1 bA
          have r1 := HR.out.still hbw1
          have rA := r1.still bA
          have bt1 : Box w1 w.heap.size 42 [.string n, .string x, .bool true, .slice a k.length cap] := ((Box.new w 42 _).still ((Below.refl _ _).drew)).still hb1
          have btA := bt1.still bA
          have oA : (w1.alloc (.cells #[.slice ua pn uc] 138)).ownsRow B 138 1 (.slice ha' hn hac) hn hs := own_keep1 HRH.out (fun q hq => hbwA.block q (World.ownsRow.lt HRH.out q hq).2)
          refine ⟨⟨r1.bx.cell 2 (by simp), rA.bx.cell 2 (by simp)⟩, by have := HBB.out; have := hbwA.size; omega, oA, fun g5 c5 w5 e1 e2 e3 => ?_⟩
          have hzA : (w1.alloc (.cells #[.slice ua pn uc] 138)).heap.size = w1.heap.size + 1 := by simp
          have hz5 := e2.size
          have hbw : b < w.heap.size := HR.out.bx.lt
          have hmw : m < w.heap.size := HR.out.mp.lt
          have f5 : Fm (fun q => (Value.slice ha' hn hac).ownBlock = some q) w w5 := (Fm.of_below hbwA).trans (Fm.of_grown (T := fun q => (Value.slice ha' hn hac).ownBlock = some q) e2 (fun q hq => hq)) (fun _ _ e => e)
          have hn3 := HR.out.n3
          have b5 : Box w5 b 112 [.map (some m), uv, (.slice ha' hn hac), .bool false] := HR.out.bx.fm f5 (fun e => (hn3 b e).1 rfl)
          have t5 : Box w5 w.heap.size 42 [.string n, .string x, .bool true, .slice a k.length cap] := btA.keep (e2.block _ (by have := btA.lt; omega) (fun e => by have := (HR.out.uhl _ e.symm).2; omega))
          have m5 : Mn w5 m 9 (strs ks) := HR.out.mp.keep (f5.block m hmw (fun e => (hn3 m e).2.1 rfl))
          obtain ⟨bs, q1, q2⟩ := HR.out.rv
          have v5 : w5.ownsRow B 4 1 uv ks.length bs := own_keep1 q2 (fun q hq => f5.block q (q2.lt q hq).2 (fun e => (hn3 q e).2.2 hq))
          have p5 : w5.ownsRow B 3 1 (.slice pa pn pc) pn xs := own_keep1 HPW.out (fun q hq => f5.block q (World.ownsRow.lt HPW.out q hq).2 (fun e => (HPD.out q hq).2.2.2 e))
          have hg : g5 ≠ b ∧ g5 ≠ m ∧ uv.ownBlock ≠ some g5 ∧ (w.heap.size ≤ g5 ∨ (Value.slice ha' hn hac).ownBlock = some g5) := by
            rcases e3 with e | e
            · have := hn3 g5 e
              exact ⟨this.1, this.2.1, this.2.2, .inr e⟩
            · refine ⟨by omega, by omega, fun e2 => ?_, .inl (by omega)⟩
              have := (HR.out.uvl g5 e2).2
              omega
          have kS : ∀ q, q ≠ b → (w5.setCell ⟨b, 2, none⟩ (.slice (some ⟨g5, 0, none⟩) (hn + 1) c5)).heap[q]? = w5.heap[q]? := fun q hq => blk_setCell_other _ _ _ _ (by show q ≠ b; exact hq)
          have kS2 : ∀ q, q ≠ b → ((w5.setCell ⟨b, 2, none⟩ (.slice (some ⟨g5, 0, none⟩) (hn + 1) c5)).setCell ⟨b, 3, none⟩ (.bool false)).heap[q]? = w5.heap[q]? := fun q hq => (blk_setCell_other _ _ _ _ (by show q ≠ b; exact hq)).trans (kS q hq)
          have b6 := b5.set 2 (.slice (some ⟨g5, 0, none⟩) (hn + 1) c5)
          have b6' : Box (w5.setCell ⟨b, 2, none⟩ (.slice (some ⟨g5, 0, none⟩) (hn + 1) c5)) b 112 [.map (some m), uv, .slice (some ⟨g5, 0, none⟩) (hn + 1) c5, .bool false] := b6
          have b7 : Box ((w5.setCell ⟨b, 2, none⟩ (.slice (some ⟨g5, 0, none⟩) (hn + 1) c5)).setCell ⟨b, 3, none⟩ (.bool false)) b 112 [.map (some m), uv, .slice (some ⟨g5, 0, none⟩) (hn + 1) c5, .bool false] := b6'.set 3 (.bool false)
          refine ⟨⟨b5.cell 2 (by simp), b5.frozen 2⟩, ⟨b6'.cell 3 (by simp), b6'.frozen 3⟩, (t5.keep (kS _ (by omega))).cell 1 (by simp), ?_⟩
          have bN := bel_alloc ((w5.setCell ⟨b, 2, none⟩ (.slice (some ⟨g5, 0, none⟩) (hn + 1) c5)).setCell ⟨b, 3, none⟩ (.bool false)) (.cells #[.string ByteArray.empty, .string ByteArray.empty, .bool false, .int .i64 2, .int .i64 0, .slice none 0 0] 129)
          have hzF : ((w5.setCell ⟨b, 2, none⟩ (.slice (some ⟨g5, 0, none⟩) (hn + 1) c5)).setCell ⟨b, 3, none⟩ (.bool false)).heap.size = w5.heap.size := by simp
          have hzw : w.heap.size < w5.heap.size := t5.lt
          have hs5 : (false || pf ⟨n, x, true, k⟩) = false := by rw [Bool.false_or, pf_mk, if_pos HHO.out]; unfold emB; rw [← isEmpty_iff, HEM.out]; rfl
          refine ⟨w5.heap.size, uv, .slice (some ⟨g5, 0, none⟩) (hn + 1) c5, ByteArray.empty, ByteArray.empty, false, 0, .slice none 0 0, rfl, by omega, ?_, ?_, ?_, ?_, At1.refl _ _, ?_, fun e => ?_, fun e => ?_⟩
          · have e : kd n true = 2 := by unfold kd; rw [if_pos HHO.out]
            have h := Box.new ((w5.setCell ⟨b, 2, none⟩ (.slice (some ⟨g5, 0, none⟩) (hn + 1) c5)).setCell ⟨b, 3, none⟩ (.bool false)) 129 [.string ByteArray.empty, .string ByteArray.empty, .bool false, .int .i64 2, .int .i64 0, .slice none 0 0]
            rw [hzF] at h
            dsimp only
            rw [e]
            exact h
          · have e1' : pv ⟨n, x, true, k⟩ ks = ks := by rw [pv_mk, if_pos HHO.out]
            have e2' : ph ⟨n, x, true, k⟩ = 1 := by rw [ph_mk, if_pos HHO.out]
            have e3' : (false || pf ⟨n, x, true, k⟩) = false := hs5
            rw [e1', e2', e3']
            have rr : Rs ((w5.setCell ⟨b, 2, none⟩ (.slice (some ⟨g5, 0, none⟩) (hn + 1) c5)).setCell ⟨b, 3, none⟩ (.bool false)) B b m ks (hn + 1) false uv (.slice (some ⟨g5, 0, none⟩) (hn + 1) c5) := ⟨b7, m5.keep (kS2 _ (Ne.symm HR.out.n1)), ⟨bs, q1, own_keep1 v5 (fun q hq => kS2 q (HR.out.n2 q hq).1)⟩, ⟨_, own_keep1 e1 (fun q hq => kS2 q (by
              have : g5 = q := by simpa [Value.ownBlock] using hq
              rw [← this]; exact hg.1))⟩, HR.out.hb, HR.out.hm, HR.out.n1, HR.out.n2, fun q hq => by
              have : g5 = q := by simpa [Value.ownBlock] using hq
              rw [← this]; exact ⟨hg.1, hg.2.1, hg.2.2.1⟩⟩
            exact rr.still bN
          · have g5a : Fm (To b m uv (.slice ha' hn hac) (.slice pa pn pc)) w w5 := ⟨f5.os, f5.tape, f5.output, f5.size, fun q hq hn => f5.block q hq (fun e => hn (.inr (.inr (.inr (.inl e)))))⟩
            exact ((g5a.trans (T' := fun q => q = b) (Fm.set rfl) (fun q _ e => .inl e)).trans (T' := fun q => q = b) (Fm.set rfl) (fun q _ e => .inl e)).still bN
          · exact own_still (own_keep1 p5 (fun q hq => kS2 q (HPD.out q hq).1)) bN
          · rcases e3 with e | e
            · exact .inl e.symm
            · exact .inr ⟨g5, rfl, by omega⟩
          · have := (HR.out.uvl _ e).2; omega
          · have : g5 = w5.heap.size := by simpa [Value.ownBlock] using e
            have := (e1.lt g5 rfl).2
            omega)
        have K0 : (w.alloc (.cells #[.string n, .string x, .bool true, .slice a k.length cap] 42)).drew.cell? ⟨b, 2, none⟩ = some (.slice ha' hn hac) := (HR.out.still (bel_alloc _ _)).bx.cell 2 (by simp)
        have HCN := (show Hid _ from clone70 xs pn (.slice pa pn pc) (w.alloc (.cells #[.string n, .string x, .bool true, .slice a k.length cap] 42)).drew (own_keep1 HPW.out (fun q hq => ((bel_alloc w (.cells #[.string n, .string x, .bool true, .slice a k.length cap] 42)).drew).block q (World.ownsRow.lt HPW.out q hq).2)) HON.out (by omega))
        go_enter Try.func63, Try.ntmps63
        go_wp2_with fail
        refine wp_region_held_drew (S := (fun _ => True)) (by kernel_rfl) trivial (fun hHeld => ?_)
        refine wpAnyH_take (i := 0) (oi := o63_2_0) (v := ?v145) rfl (by kernel_rfl) (by kernel_rfl) (by kernel_rfl) (fun _ _ _ h => h) (Or.inl ⟨by rfl, ?h145⟩) hHeld ?r145
        case h145 => (intro w hSw; (try dsimp only at hSw); go_simp; try with_reducible rfl)
        try simp only [Act.put, List.setIfInBounds_toArray, List.set_cons_zero, List.set_cons_succ]
        refine wpAnyH_take (i := 1) (oi := o63_2_1) (v := ?v146) rfl (by kernel_rfl) (by kernel_rfl) (by kernel_rfl) (fun _ _ _ h => h) (Or.inl ⟨by rfl, ?h146⟩) hHeld ?r146
        case h146 => (intro w hSw; (try dsimp only at hSw); go_simp; try with_reducible rfl)
        try simp only [Act.put, List.setIfInBounds_toArray, List.set_cons_zero, List.set_cons_succ]
        refine wpAnyH_take (i := 2) (oi := o63_2_2) (v := ?v147) rfl (by kernel_rfl) (by kernel_rfl) (by kernel_rfl) (fun _ _ _ h => h) (Or.inl ⟨by rfl, ?h147⟩) hHeld ?r147
        case h147 => (intro w hSw; (try dsimp only at hSw); go_simp; try with_reducible rfl)
        try simp only [Act.put, List.setIfInBounds_toArray, List.set_cons_zero, List.set_cons_succ]
        refine wpAnyH_take (i := 3) (oi := o63_2_3) (v := ?v148) rfl (by kernel_rfl) (by kernel_rfl) (by kernel_rfl) (fun _ _ _ h => h) (Or.inl ⟨by rfl, ?h148⟩) hHeld ?r148
        case h148 => (intro w hSw; (try dsimp only at hSw); go_simp; try with_reducible rfl)
        try simp only [Act.put, List.setIfInBounds_toArray, List.set_cons_zero, List.set_cons_succ]
        refine wpAnyH_take (i := 5) (oi := o63_2_5) (v := ?v149) rfl (by kernel_rfl) (by kernel_rfl) (by kernel_rfl) (fun _ _ _ h => h) (Or.inl ⟨by rfl, ?h149⟩) hHeld ?r149
        case h149 => (intro w hSw; (try dsimp only at hSw); go_simp; try with_reducible rfl)
        try simp only [Act.put, List.setIfInBounds_toArray, List.set_cons_zero, List.set_cons_succ]
        refine wpAnyH_ready (rs := [4, 6]) (by kernel_rfl) (by simp) ?_
        refine (AllReadyH.cons (o := o63_2_4) rfl (fun K hK => ?yc151) (AllReadyH.cons (o := o63_2_6) rfl (fun K hK => ?yc150) AllReadyH.nil))
        case' yc151 =>
          go_simp
          clear hHeld
          refine hK.out _ _ trivial (fun hHeld => ?_)
          clear hK K
          try simp only [Act.put, List.setIfInBounds_toArray, List.set_cons_zero, List.set_cons_succ]
          refine wpAnyH_ready (rs := [6]) (by kernel_rfl) (by simp) ?_
          refine (AllReadyH.cons (o := o63_2_6) rfl (fun K hK => ?yc152) AllReadyH.nil)
          case' yc152 =>
            go_simp
            refine Calls.mono HCN.out ?_
            rintro e w1 ⟨ua, uc, rfl, hb1⟩
            dsimp only
            obtain ⟨⟨K1, K2⟩, hBA, hoA, hUP⟩ := HUP.out ua uc w1 hb1
            have HBA := (show Hid _ from hBA)
            have HOA := (show Hid _ from hoA)
            have HU2 := (show Hid _ from hUP)
            clear hBA hoA hUP hb1 K0
            clear hHeld
            refine hK.out _ _ trivial (fun hHeld => ?_)
            clear hK K
            try simp only [Act.put, List.setIfInBounds_toArray, List.set_cons_zero, List.set_cons_succ]
            refine wpAnyH_ready (rs := [7]) (by kernel_rfl) (by simp) ?_
            refine (AllReadyH.cons (o := o63_2_7) rfl (fun K hK => ?yc153) AllReadyH.nil)
            case' yc153 =>
              go_simp
              clear hHeld
              refine hK.out _ _ trivial (fun hHeld => ?_)
              clear hK K
              try simp only [Act.put, List.setIfInBounds_toArray, List.set_cons_zero, List.set_cons_succ]
              refine wpAnyH_ready (rs := [8]) (by kernel_rfl) (by simp) ?_
              refine (AllReadyH.cons (o := o63_2_8) rfl (fun K hK => ?yc154) AllReadyH.nil)
              case' yc154 =>
                (refine step_append_lies _ rfl (.tmp 22) (.tmp 25) 85 rfl B 138 i138 _ 1 24 Try.underlying85 hi138 hy0 hy1 hy2 rfl (by decide) (.slice ha' hn hac) hn hs (by simp [Act.eval, Act.put]) HOA.out ⟨w1.heap.size, 0, none⟩ 1 1 [.slice ua pn uc] (by simp [Act.eval, Act.put]) rfl (World.news_of_block (cs := #[.slice ua pn uc]) (blk_alloc_new _ _)) (by intro u hu; simp at hu; subst hu; rfl) (by decide) (by unfold maxLen; omega) (by omega) HBA.out (w1.heap.size + 1) (by simp) ?_; intro g5 c5 w5 e1 e2 e3 e4; obtain ⟨⟨B5, Z5⟩, ⟨B6, Z6⟩, T6, hfin⟩ := HU2.out g5 c5 w5 e1 e2 e3; have HFIN := (show Hid _ from hfin); clear e1 e2 e3 e4 hfin HU2 HOA HBA K1 K2)
                clear hHeld
                refine hK.out _ _ trivial (fun hHeld => ?_)
                clear hK K
                try simp only [Act.put, List.setIfInBounds_toArray, List.set_cons_zero, List.set_cons_succ]
                refine wpAnyH_take (i := 9) (oi := o63_2_9) (v := ?v155) rfl (by kernel_rfl) (by kernel_rfl) (by kernel_rfl) (fun _ _ _ h => h) (Or.inl ⟨by rfl, ?h155⟩) hHeld ?r155
                case h155 => (intro w hSw; (try dsimp only at hSw); go_simp; try with_reducible rfl)
                try simp only [Act.put, List.setIfInBounds_toArray, List.set_cons_zero, List.set_cons_succ]
                refine wpAnyH_take (i := 10) (oi := o63_2_10) (v := ?v156) rfl (by kernel_rfl) (by kernel_rfl) (by kernel_rfl) (fun _ _ _ h => h) (Or.inl ⟨by rfl, ?h156⟩) hHeld ?r156
                case h156 => (intro w hSw; (try dsimp only at hSw); go_simp; try with_reducible rfl)
                try simp only [Act.put, List.setIfInBounds_toArray, List.set_cons_zero, List.set_cons_succ]
                refine wpAnyH_ready (rs := [11]) (by kernel_rfl) (by simp) ?_
                refine (AllReadyH.cons (o := o63_2_11) rfl (fun K hK => ?yc157) AllReadyH.nil)
                case' yc157 =>
                  go_simp
                  clear hHeld
                  refine hK.out _ _ trivial (fun hHeld => ?_)
                  clear hK K
                  try simp only [Act.put, List.setIfInBounds_toArray, List.set_cons_zero, List.set_cons_succ]
                  refine wpAnyH_done (by kernel_rfl) ?_ _
                  (try refine NoPanic.normal ?_)
                  clear hHeld B5 Z5
                  go_wp2_with fail
                  go_ret
                  first | exact HFIN.out | (simpa [go_sem] using HFIN.out)
        case' yc150 =>
          go_simp
          refine Calls.mono HCN.out ?_
          rintro e w1 ⟨ua, uc, rfl, hb1⟩
          dsimp only
          obtain ⟨⟨K1, K2⟩, hBA, hoA, hUP⟩ := HUP.out ua uc w1 hb1
          have HBA := (show Hid _ from hBA)
          have HOA := (show Hid _ from hoA)
          have HU2 := (show Hid _ from hUP)
          clear hBA hoA hUP hb1 K0
          clear hHeld
          refine hK.out _ _ trivial (fun hHeld => ?_)
          clear hK K
          try simp only [Act.put, List.setIfInBounds_toArray, List.set_cons_zero, List.set_cons_succ]
          refine wpAnyH_ready (rs := [4, 7]) (by kernel_rfl) (by simp) ?_
          refine (AllReadyH.cons (o := o63_2_4) rfl (fun K hK => ?yc159) (AllReadyH.cons (o := o63_2_7) rfl (fun K hK => ?yc158) AllReadyH.nil))
          case' yc159 =>
            go_simp
            clear hHeld
            refine hK.out _ _ trivial (fun hHeld => ?_)
            clear hK K
            try simp only [Act.put, List.setIfInBounds_toArray, List.set_cons_zero, List.set_cons_succ]
            refine wpAnyH_ready (rs := [7]) (by kernel_rfl) (by simp) ?_
            refine (AllReadyH.cons (o := o63_2_7) rfl (fun K hK => ?yc160) AllReadyH.nil)
            case' yc160 =>
              go_simp
              clear hHeld
              refine hK.out _ _ trivial (fun hHeld => ?_)
              clear hK K
              try simp only [Act.put, List.setIfInBounds_toArray, List.set_cons_zero, List.set_cons_succ]
              refine wpAnyH_ready (rs := [8]) (by kernel_rfl) (by simp) ?_
              refine (AllReadyH.cons (o := o63_2_8) rfl (fun K hK => ?yc161) AllReadyH.nil)
              case' yc161 =>
                (refine step_append_lies _ rfl (.tmp 22) (.tmp 25) 85 rfl B 138 i138 _ 1 24 Try.underlying85 hi138 hy0 hy1 hy2 rfl (by decide) (.slice ha' hn hac) hn hs (by simp [Act.eval, Act.put]) HOA.out ⟨w1.heap.size, 0, none⟩ 1 1 [.slice ua pn uc] (by simp [Act.eval, Act.put]) rfl (World.news_of_block (cs := #[.slice ua pn uc]) (blk_alloc_new _ _)) (by intro u hu; simp at hu; subst hu; rfl) (by decide) (by unfold maxLen; omega) (by omega) HBA.out (w1.heap.size + 1) (by simp) ?_; intro g5 c5 w5 e1 e2 e3 e4; obtain ⟨⟨B5, Z5⟩, ⟨B6, Z6⟩, T6, hfin⟩ := HU2.out g5 c5 w5 e1 e2 e3; have HFIN := (show Hid _ from hfin); clear e1 e2 e3 e4 hfin HU2 HOA HBA K1 K2)
                clear hHeld
                refine hK.out _ _ trivial (fun hHeld => ?_)
                clear hK K
                try simp only [Act.put, List.setIfInBounds_toArray, List.set_cons_zero, List.set_cons_succ]
                refine wpAnyH_take (i := 9) (oi := o63_2_9) (v := ?v162) rfl (by kernel_rfl) (by kernel_rfl) (by kernel_rfl) (fun _ _ _ h => h) (Or.inl ⟨by rfl, ?h162⟩) hHeld ?r162
                case h162 => (intro w hSw; (try dsimp only at hSw); go_simp; try with_reducible rfl)
                try simp only [Act.put, List.setIfInBounds_toArray, List.set_cons_zero, List.set_cons_succ]
                refine wpAnyH_take (i := 10) (oi := o63_2_10) (v := ?v163) rfl (by kernel_rfl) (by kernel_rfl) (by kernel_rfl) (fun _ _ _ h => h) (Or.inl ⟨by rfl, ?h163⟩) hHeld ?r163
                case h163 => (intro w hSw; (try dsimp only at hSw); go_simp; try with_reducible rfl)
                try simp only [Act.put, List.setIfInBounds_toArray, List.set_cons_zero, List.set_cons_succ]
                refine wpAnyH_ready (rs := [11]) (by kernel_rfl) (by simp) ?_
                refine (AllReadyH.cons (o := o63_2_11) rfl (fun K hK => ?yc164) AllReadyH.nil)
                case' yc164 =>
                  go_simp
                  clear hHeld
                  refine hK.out _ _ trivial (fun hHeld => ?_)
                  clear hK K
                  try simp only [Act.put, List.setIfInBounds_toArray, List.set_cons_zero, List.set_cons_succ]
                  refine wpAnyH_done (by kernel_rfl) ?_ _
                  (try refine NoPanic.normal ?_)
                  clear hHeld B5 Z5
                  go_wp2_with fail
                  go_ret
                  first | exact HFIN.out | (simpa [go_sem] using HFIN.out)
          case' yc158 =>
            go_simp
            clear hHeld
            refine hK.out _ _ trivial (fun hHeld => ?_)
            clear hK K
            try simp only [Act.put, List.setIfInBounds_toArray, List.set_cons_zero, List.set_cons_succ]
            refine wpAnyH_ready (rs := [4]) (by kernel_rfl) (by simp) ?_
            refine (AllReadyH.cons (o := o63_2_4) rfl (fun K hK => ?yc165) AllReadyH.nil)
            case' yc165 =>
              go_simp
              clear hHeld
              refine hK.out _ _ trivial (fun hHeld => ?_)
              clear hK K
              try simp only [Act.put, List.setIfInBounds_toArray, List.set_cons_zero, List.set_cons_succ]
              refine wpAnyH_ready (rs := [8]) (by kernel_rfl) (by simp) ?_
              refine (AllReadyH.cons (o := o63_2_8) rfl (fun K hK => ?yc166) AllReadyH.nil)
              case' yc166 =>
                (refine step_append_lies _ rfl (.tmp 22) (.tmp 25) 85 rfl B 138 i138 _ 1 24 Try.underlying85 hi138 hy0 hy1 hy2 rfl (by decide) (.slice ha' hn hac) hn hs (by simp [Act.eval, Act.put]) HOA.out ⟨w1.heap.size, 0, none⟩ 1 1 [.slice ua pn uc] (by simp [Act.eval, Act.put]) rfl (World.news_of_block (cs := #[.slice ua pn uc]) (blk_alloc_new _ _)) (by intro u hu; simp at hu; subst hu; rfl) (by decide) (by unfold maxLen; omega) (by omega) HBA.out (w1.heap.size + 1) (by simp) ?_; intro g5 c5 w5 e1 e2 e3 e4; obtain ⟨⟨B5, Z5⟩, ⟨B6, Z6⟩, T6, hfin⟩ := HU2.out g5 c5 w5 e1 e2 e3; have HFIN := (show Hid _ from hfin); clear e1 e2 e3 e4 hfin HU2 HOA HBA K1 K2)
                clear hHeld
                refine hK.out _ _ trivial (fun hHeld => ?_)
                clear hK K
                try simp only [Act.put, List.setIfInBounds_toArray, List.set_cons_zero, List.set_cons_succ]
                refine wpAnyH_take (i := 9) (oi := o63_2_9) (v := ?v167) rfl (by kernel_rfl) (by kernel_rfl) (by kernel_rfl) (fun _ _ _ h => h) (Or.inl ⟨by rfl, ?h167⟩) hHeld ?r167
                case h167 => (intro w hSw; (try dsimp only at hSw); go_simp; try with_reducible rfl)
                try simp only [Act.put, List.setIfInBounds_toArray, List.set_cons_zero, List.set_cons_succ]
                refine wpAnyH_take (i := 10) (oi := o63_2_10) (v := ?v168) rfl (by kernel_rfl) (by kernel_rfl) (by kernel_rfl) (fun _ _ _ h => h) (Or.inl ⟨by rfl, ?h168⟩) hHeld ?r168
                case h168 => (intro w hSw; (try dsimp only at hSw); go_simp; try with_reducible rfl)
                try simp only [Act.put, List.setIfInBounds_toArray, List.set_cons_zero, List.set_cons_succ]
                refine wpAnyH_ready (rs := [11]) (by kernel_rfl) (by simp) ?_
                refine (AllReadyH.cons (o := o63_2_11) rfl (fun K hK => ?yc169) AllReadyH.nil)
                case' yc169 =>
                  go_simp
                  clear hHeld
                  refine hK.out _ _ trivial (fun hHeld => ?_)
                  clear hK K
                  try simp only [Act.put, List.setIfInBounds_toArray, List.set_cons_zero, List.set_cons_succ]
                  refine wpAnyH_done (by kernel_rfl) ?_ _
                  (try refine NoPanic.normal ?_)
                  clear hHeld B5 Z5
                  go_wp2_with fail
                  go_ret
                  first | exact HFIN.out | (simpa [go_sem] using HFIN.out)
end Go.Proofs.Ytboffildchoelaa
