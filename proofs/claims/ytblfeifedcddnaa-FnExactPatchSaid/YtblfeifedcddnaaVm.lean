import Derived.Test.YtblfeifedcddnaaVk
import Derived.Deep.AppendLies
/-! The program: withOneMore; what is known of the trees that come in. -/
namespace Go.Proofs.Ytblfeifedcddnaa
open Go.RowKit Go.Deep Go.Lib
set_option linter.unusedVariables false
set_option maxRecDepth 100000
set_option linter.unusedSimpArgs false

/-- Lists that are made: while no more than 1000 came in they are the same; else both are too large. -/
def QL (n0 n : Nat) (m m' : List Tr) : Prop := n0 ≤ n ∧ (n ≤ 1000 → m' = m) ∧ min n 1000 ≤ n0 + Tr.cntL m' ∧ n ≤ n0 + Tr.cntL m
def QT (n0 n : Nat) (t t' : Tr) : Prop := n0 ≤ n ∧ (n ≤ 1000 → t' = t) ∧ min n 1000 + 1 ≤ n0 + t'.cnt ∧ n + 1 ≤ n0 + t.cnt
theorem QL.nil (n0 : Nat) : QL n0 n0 [] [] := ⟨Nat.le_refl _, fun _ => rfl, by simp [Tr.cntL]; omega, by simp [Tr.cntL]⟩
theorem QL.one {n0 n : Nat} {m m' : List Tr} (h : QL n0 n m m') (t : Tr) : QL n0 (n + 1) (m ++ [t]) (if 1000 < n + 1 then m' else m' ++ [t]) := by
  obtain ⟨h1, h2, h3, h4⟩ := h
  have hc := Tr.cnt_pos t
  have e1 : Tr.cntL (m ++ [t]) = Tr.cntL m + t.cnt := by simp [Tr.cntL]
  have e2 : Tr.cntL (m' ++ [t]) = Tr.cntL m' + t.cnt := by simp [Tr.cntL]
  split
  · exact ⟨by omega, fun h => by omega, by omega, by omega⟩
  · exact ⟨by omega, fun h => by rw [h2 (by omega)], by omega, by omega⟩
theorem QL.kid {n0 n n2 : Nat} {m m' : List Tr} {t t' : Tr} (h : QL n0 n m m') (k : QT n n2 t t') : QL n0 n2 (m ++ [t]) (m' ++ [t']) := by
  obtain ⟨h1, h2, h3, h4⟩ := h
  obtain ⟨k1, k2, k3, k4⟩ := k
  have e1 : Tr.cntL (m ++ [t]) = Tr.cntL m + t.cnt := by simp [Tr.cntL]
  have e2 : Tr.cntL (m' ++ [t']) = Tr.cntL m' + t'.cnt := by simp [Tr.cntL]
  exact ⟨by omega, fun h => by rw [h2 (by omega), k2 h], by omega, by omega⟩
theorem QL.node {n0 n : Nat} {m m' : List Tr} (h : QL n0 n m m') (nm : ByteArray) : QT n0 n ⟨nm, ByteArray.empty, false, m⟩ ⟨nm, ByteArray.empty, false, m'⟩ := by
  obtain ⟨h1, h2, h3, h4⟩ := h
  exact ⟨h1, fun h => by rw [h2 h], by rw [Tr.cnt_mk]; omega, by rw [Tr.cnt_mk]; omega⟩
theorem QT.same (n : Nat) (t : Tr) : QT n n t t := ⟨Nat.le_refl _, fun _ => rfl, by have := Tr.cnt_pos t; omega, by have := Tr.cnt_pos t; omega⟩
/-- All but two blocks are as they were. -/
def Bt2 (gb : Nat) (row : Option Nat) (w w' : World) : Prop := w'.os = w.os ∧ w'.tape = w.tape ∧ w'.output = w.output ∧ w.heap.size ≤ w'.heap.size ∧ ∀ q, q < w.heap.size → q ≠ gb → row ≠ some q → w'.heap[q]? = w.heap[q]?
theorem Bt2.but {gb : Nat} {row : Option Nat} {w0 w w' : World} (h : Bt2 gb row w w') (hb : But gb w0 w) (hr : ∀ q, row = some q → w0.heap.size ≤ q) : But gb w0 w' := by
  refine ⟨h.1.trans hb.1, h.2.1.trans hb.2.1, h.2.2.1.trans hb.2.2.1, Nat.le_trans hb.size h.2.2.2.1, fun q hq hp => (h.2.2.2.2 q (by have := hb.size; omega) hp (fun e => by have := hr q e; omega)).trans (hb.block hq hp)⟩
/-- What withOneMore leaves. -/
def OmA (gb n C B : Nat) (m : List Tr) (T : Tr) (row : Option Nat) (w : World) (e : Ending) (w' : World) : Prop :=
  ∃ (ua : Option Addr) (up : Nat) (m2 : List Tr), m2 = (if 1000 < n + 1 then m else m ++ [T]) ∧ e = .returned (.slice ua m2.length up) ∧ Bt2 gb row w w' ∧ Box w' gb 119 [.int .i64 (n + 1 : Nat)] ∧ FGr m2 C B m2.length (.slice ua m2.length up) w'
set_option maxHeartbeats 1600000 in
theorem more127 (gb n C B : Nat) (m : List Tr) (T : Tr) (ua : Option Addr) (up : Nat) (x : Value) (w : World) (hg : Box w gb 119 [.int .i64 n]) (hf : FGr m C B m.length (.slice ua m.length up) w) (hl : Lies w (fun q => q < C) T x) (h1 : C ≤ gb) (h2 : gb < B) (hB : B ≤ w.heap.size) (hn : n ≤ 1099511627776) (hm : m.length ≤ 1048576) :
    Calls Try.prog 127 #[.pointer (some ⟨gb, 0, none⟩), .slice ua m.length up, T.val x] w (OmA gb n C B m T (Value.slice ua m.length up).ownBlock w) := by
  obtain ⟨xa, xl, xp, rfl⟩ := hl.form
  have hbA := bel_alloc w (.cells #[.string T.name, .string T.text, .bool T.leaf, .slice xa xl xp] 51)
  have hgA := hg.still hbA
  have c0 : (w.alloc (.cells #[.string T.name, .string T.text, .bool T.leaf, .slice xa xl xp] 51)).cell? ⟨gb, 0, none⟩ = some (.int .i64 n) := hgA.cell 0 (by simp)
  have z0 := hgA.frozen 0
  have d0 : w.cell? ⟨gb, 0, none⟩ = some (.int .i64 n) := hg.cell 0 (by simp)
  have y0 := hg.frozen 0
  have hgl := hg.lt
  have wr1 : IntKind.i64.wrap ((n : Int) + 1) = (n : Int) + 1 := by rw [IntKind.wrap_i64] <;> omega
  obtain ⟨i51, hi51, hzz⟩ := Option.map_eq_some_iff.1 info51
  simp only [Prod.mk.injEq] at hzz
  obtain ⟨hz0, hz1, hz2⟩ := hzz
  have hfs := hf.past (o := 0) (x := .int .i64 ((n : Int) + 1)) h1 h2
  have HF := (show Hid _ from hfs)
  have HG := (show Hid _ from hg)
  have HL := (show Hid _ from hl)
  clear hf hfs hg hgA hl
  simp only [Tr.val]
  by_cases hc : 1000 < n + 1
  · have HE := (show Hid (OmA gb n C B m T (Value.slice ua m.length up).ownBlock w (.returned (.slice ua m.length up)) ((w.setCell ⟨gb, 0, none⟩ (.int .i64 ((n : Int) + 1))).alloc (.cells #[.string T.name, .string T.text, .bool T.leaf, .slice xa xl xp] 51))) from (by
      refine ⟨ua, up, m, by rw [if_pos hc], rfl, ⟨rfl, rfl, rfl, by simp, fun q hq hp _ => ?_⟩, ?_, FGr.still HF.out (bel_alloc _ _)⟩
      · rw [(bel_alloc (w.setCell ⟨gb, 0, none⟩ (.int .i64 ((n : Int) + 1))) _).block q (by simpa using hq)]
        exact blk_setCell_other _ _ _ _ hp
      · exact (HG.out.set 0 (.int .i64 ((n : Int) + 1))).still (bel_alloc _ _)))
    have q1 : decide ((1000 : Int) < (n : Int) + 1) = true := decide_eq_true (by omega)
    clear HF HG HL hc
    go_enter Try.func127, Try.ntmps127
    go_wp2_with fail
    go_ret
    exact HE.out
  · have q1 : decide ((1000 : Int) < (n : Int) + 1) = false := decide_eq_false (by omega)
    obtain ⟨fs, hown, hls⟩ := HF.out
    have hbB := bel_alloc (w.setCell ⟨gb, 0, none⟩ (.int .i64 ((n : Int) + 1))) (.cells #[.string T.name, .string T.text, .bool T.leaf, .slice xa xl xp] 51)
    have HO2 := (show Hid _ from own_still (own_still hown hbB) (bel_alloc _ (.cells #[.string T.name, .string T.text, .bool T.leaf, .slice xa xl xp] 51)))
    have HFG := (show Hid _ from (⟨hown, hls⟩ : _ ∧ _))
    have HC := (show Hid _ from hc)
    have q2 : ¬ (1000 : Int) < (n : Int) + 1 := by omega
    clear hown hls HF hc
    go_enter Try.func127, Try.ntmps127
    go_wp2_with (at_builtin; (refine wpList_append_lies _ rfl (.tmp 20) (.tmp 22) 30 rfl B 51 i51 _ 4 64 Try.underlying30 hi51 hz0 hz1 hz2 rfl (by decide) _ m.length (kc m fs m.length) rfl HO2.out ⟨w.heap.size + 1, 0, none⟩ 1 1 [.string T.name, .string T.text, .bool T.leaf, .slice xa xl xp] rfl rfl ?cc1 ?cc2 (by decide) ?cc3 (by omega) (by simp; omega) _ rfl ?nx))
    case cc2 => exact ⟨rfl, rfl, rfl, rfl⟩
    case cc3 => unfold maxLen; omega
    case nx =>
      intro g3 cap3 w3 hown3 hgr3 hat3 hlt3
      have hbC := bel_trans hbB (bel_alloc _ (.cells #[.string T.name, .string T.text, .bool T.leaf, .slice xa xl xp] 51))
      have hG3 : FGr (m ++ [T]) C B (m.length + 1) (.slice (some ⟨g3, 0, none⟩) (m.length + 1) cap3) w3 := by
        refine FGr.step (k := m ++ [T]) (fs := fs) (u := .slice xa xl xp) (wr := w.setCell ⟨gb, 0, none⟩ (.int .i64 ((n : Int) + 1))) (w2 := ((w.setCell ⟨gb, 0, none⟩ (.int .i64 ((n : Int) + 1))).alloc (.cells #[.string T.name, .string T.text, .bool T.leaf, .slice xa xl xp] 51)).alloc (.cells #[.string T.name, .string T.text, .bool T.leaf, .slice xa xl xp] 51)) (v := .slice ua m.length up) ?_ (fun i hi => by rw [nth_app hi]; exact HFG.out.2 i hi) (by omega) (by simpa using hB) hbC ?_ ?_ hgr3 (by simp only [World.size_alloc, World.size_setCell] at hat3 ⊢; exact hat3)
        · rw [kc_app _ _ _ _ (Nat.le_refl _)]; exact HFG.out.1
        · rw [nth_last]
          exact ((Lies.keep (w := w) (fun q (hq : q < C) => blk_setCell_other _ _ _ _ (by show q ≠ gb; omega)) HL.out).still hbC).mono (fun q hq => .inl hq)
        · rw [kc_app _ _ _ _ (Nat.le_refl _), nth_last]; exact hown3
      have hrow := HFG.out.1.lt
      have hblk : ∀ q, q < w.heap.size → (Value.slice ua m.length up).ownBlock ≠ some q → w3.heap[q]? = (w.setCell ⟨gb, 0, none⟩ (.int .i64 ((n : Int) + 1))).heap[q]? := fun q hq hne => (hgr3.block q (by simp; omega) (fun e => hne e.symm)).trans (hbC.block q (by simpa using hq))
      have HE := (show Hid (OmA gb n C B m T (Value.slice ua m.length up).ownBlock w (.returned (.slice (some ⟨g3, 0, none⟩) (m.length + 1) cap3)) w3) from (by
        refine ⟨some ⟨g3, 0, none⟩, cap3, m ++ [T], by rw [if_neg HC.out], by simp, ⟨hgr3.os, hgr3.tape, hgr3.output, by have := hgr3.size; simp at this; omega, fun q hq hp hne => (hblk q hq hne).trans (blk_setCell_other _ _ _ _ hp)⟩, ?_, by simpa using hG3⟩
        exact (HG.out.set 0 (.int .i64 ((n : Int) + 1))).keep (hblk gb hgl (fun e => by have := (hrow gb e).1; omega))))
      clear hown3 hgr3 hat3 hlt3 hG3 hblk hbB hbC HFG HO2 HG HL hrow
      go_wp2_with fail
      go_ret
      exact HE.out
end Go.Proofs.Ytblfeifedcddnaa
