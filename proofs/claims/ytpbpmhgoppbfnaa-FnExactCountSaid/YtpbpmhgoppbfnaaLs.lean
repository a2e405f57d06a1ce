import Derived.Test.YtpbpmhgoppbfnaaSe
import Derived.BigQuiet
/-! The program: the Least of symbols, and a shorter one. -/
namespace Go.Proofs.Ytpbpmhgoppbfnaa
open Go.RowKit Go.Deep
set_option linter.unusedVariables false
set_option maxRecDepth 100000
set_option linter.unusedSimpArgs false

/-- All blocks but one are as they were. -/
structure Bt (g : Nat) (w w' : World) : Prop where
  os : w'.os = w.os
  tape : w'.tape = w.tape
  output : w'.output = w.output
  size : w.heap.size ≤ w'.heap.size
  block : ∀ k, k < w.heap.size → k ≠ g → w'.heap[k]? = w.heap[k]?
theorem Bt.refl (g : Nat) (w : World) : Bt g w w := ⟨rfl, rfl, rfl, Nat.le_refl _, fun _ _ _ => rfl⟩
theorem Bt.trans {g : Nat} {a b c : World} (h : Bt g a b) (k : Bt g b c) : Bt g a c :=
  ⟨k.os.trans h.os, k.tape.trans h.tape, k.output.trans h.output, Nat.le_trans h.size k.size, fun q hq hr => (k.block q (Nat.lt_of_lt_of_le hq h.size) hr).trans (h.block q hq hr)⟩
theorem Bt.of_below {g : Nat} {a b : World} (h : Below a.heap.size a b) : Bt g a b := ⟨h.os, h.tape, h.output, h.size, fun k hk _ => h.block k hk⟩
theorem Bt.set {g o : Nat} (w : World) (u : Value) : Bt g w (w.setCell ⟨g, o, none⟩ u) := ⟨rfl, rfl, rfl, by simp [World.setCell], fun k _ hr => blk_setCell_other _ _ _ _ (by exact hr)⟩
theorem Bt.below {g : Nat} {a b : World} {B : Nat} (h : Bt g a b) (hg : B ≤ g) (hB : B ≤ a.heap.size) : Below B a b := ⟨h.os, h.tape, h.output, h.size, fun k hk => h.block k (by omega) (by omega)⟩
theorem Bt.drew {g : Nat} {a b : World} (h : Bt g a b) : Bt g a b.drew := ⟨h.os, h.tape, h.output, h.size, h.block⟩

/-- Plain rules under study: their cells, and the Least of each symbol in a row of its own. -/
structure St (w : World) (g b : Nat) (v0 v1 vo v3 : Value) (L : List Int) : Prop where
  box : Box w g 68 [v0, v1, vo, v3, .slice (some ⟨b, 0, none⟩) L.length L.length]
  row : IRow w b L
  ne : g ≠ b
theorem St.still {w w' : World} {g b : Nat} {v0 v1 vo v3 : Value} {L : List Int} (h : St w g b v0 v1 vo v3 L) (hb : Below w.heap.size w w') : St w' g b v0 v1 vo v3 L :=
  ⟨h.box.still hb, World.rowIs.of_block h.row (hb.block b (World.rowIs.lt h.row)), h.ne⟩
theorem St.cell {w : World} {g b : Nat} {v0 v1 vo v3 : Value} {L : List Int} (h : St w g b v0 v1 vo v3 L) (x : Nat) (hx : x < L.length) : w.cell? ⟨b, x, none⟩ = some (.int .i64 L[x]) := by
  have := World.rowIs.cell h.row hx
  simpa [List.getD_eq_getElem?_getD, hx] using this
theorem St.set {w : World} {g b : Nat} {v0 v1 vo v3 : Value} {L : List Int} (h : St w g b v0 v1 vo v3 L) (x : Nat) (hx : x < L.length) (u : Int) : St (w.setCell ⟨b, x, none⟩ (.int .i64 u)) g b v0 v1 vo v3 (L.set x u) := by
  refine ⟨?_, ?_, h.ne⟩
  · rw [List.length_set]
    exact h.box.keep (blk_setCell_other _ _ _ _ (by exact h.ne))
  · obtain ⟨c, h1, h2, h3⟩ := World.rowIs.set h.row x (.int .i64 u)
    refine ⟨c, h1, by simpa using h2, fun j hj => ?_⟩
    rw [List.length_set] at hj
    rw [h3 j hj]
    by_cases e : j = x
    · subst e; simp [List.getD_eq_getElem?_getD, hx]
    · have e2 : (L.set x u)[j]? = L[j]? := List.getElem?_set_ne (fun h : x = j => e h.symm)
      simp [List.getD_eq_getElem?_getD, e, e2]
/-- The Least of a symbol. -/
def Lf (L : List Int) : Nat → Int := fun x => L.getD x (-1)
theorem Lf_lt {L : List Int} {x : Nat} (h : x < L.length) : Lf L x = L[x] := by simp [Lf, List.getD_eq_getElem?_getD, h]
theorem Lf_set {L : List Int} {x : Nat} (h : x < L.length) (u : Int) : Lf (L.set x u) = upd (Lf L) x u := by
  funext y
  unfold Lf upd
  by_cases e : y = x
  · subst e; simp [List.getD_eq_getElem?_getD, h]
  · have e2 : (L.set x u)[y]? = L[y]? := List.getElem?_set_ne (fun h : x = y => e h.symm)
    simp [List.getD_eq_getElem?_getD, e, e2]
def nats (r : List Int) : List Nat := r.map Int.toNat
theorem nats_drop (r : List Int) (j : Nat) (h : j < r.length) : (nats r).drop j = r[j].toNat :: (nats r).drop (j + 1) := by
  have h' : j < (nats r).length := by simpa [nats] using h
  rw [List.drop_eq_getElem_cons h']
  simp [nats]
theorem lsum_none {L : Nat → Int} {x : Nat} {r : List Nat} (h : L x = -1) : lsum L (x :: r) = none := by rw [lsum, if_pos h]
theorem lsum_some {L : Nat → Int} {x : Nat} {r : List Nat} (h : ¬ L x = -1) : lsum L (x :: r) = (lsum L r).map (L x + ·) := by rw [lsum, if_neg h]

set_option maxHeartbeats 1600000 in
theorem leastOf_any {S : Nat → Prop} (w : World) (g b : Nat) (v0 v1 vo v3 : Value) (L r : List Int) (v : Value) (h : St w g b v0 v1 vo v3 L) (hr : Ints w S r v) (hin : ∀ i (hi : i < r.length), 0 ≤ r[i] ∧ r[i] < L.length) (hlo : ∀ x, -1 ≤ Lf L x) (hto : ∀ x, Lf L x ≤ 1000) (hlen : r.length ≤ 1048576) (hLl : L.length ≤ 1048576) :
    Calls Try.prog 69 #[.pointer (some ⟨g, 0, none⟩), v] w fun e w' => e = .returned (.int .i64 (lof (Lf L) (nats r))) ∧ w' = w := by
  obtain ⟨a, cap, bb, off, rfl, hc, hm, ha, hcell⟩ := hr
  have HC := (show Hid _ from hcell); clear hcell
  have HA := (show Hid _ from ha); clear ha
  have HI := (show Hid _ from hin); clear hin
  have HLO := (show Hid _ from hlo); clear hlo
  have HTO := (show Hid _ from hto); clear hto
  have HS := (show Hid _ from h)
  have T4 : w.cell? ⟨g, 4, none⟩ = some (.slice (some ⟨b, 0, none⟩) L.length L.length) := h.box.cell 4 (by simp)
  clear h
  unfold maxLen at hm
  generalize hR : lof (Lf L) (nats r) = R
  have HR := (show Hid _ from hR); clear hR
  go_enter Try.func69, Try.ntmps69
  go_wp2_with fail
  go_loopw [5, 10] (fun u i wr => ∃ (s j : Nat), u = .int .i64 s ∧ i = .int .i64 j ∧ j ≤ r.length ∧ s ≤ 1000 * j ∧ wr = w ∧ Hid (lsum (Lf L) (nats r) = (lsum (Lf L) ((nats r).drop j)).map ((s : Int) + ·))) (fun _ i _ => r.length - (intOf i).toNat)
  case atStart =>
    refine ⟨0, 0, rfl, rfl, Nat.zero_le _, Nat.zero_le _, rfl, ?_⟩
    show lsum (Lf L) (nats r) = _
    rw [List.drop_zero]
    cases lsum (Lf L) (nats r) with
    | none => rfl
    | some t => simp
  case round =>
    obtain ⟨s, j, rfl, rfl, hj, hs, rfl, HJ⟩ := hrel
    by_cases hlt : j < r.length
    · have hlt' := hlt
      obtain ⟨rfl, _⟩ := HA.out (by omega)
      have c0 := HC.out j hlt'
      obtain ⟨i1, i2⟩ := HI.out j hlt'
      have hJ := HJ.out
      rw [nats_drop r j hlt'] at hJ
      obtain ⟨x, hx⟩ : ∃ x : Nat, r[j] = x := ⟨r[j].toNat, by omega⟩
      rw [hx] at i1 i2 c0 hJ
      rw [Int.toNat_natCast] at hJ
      have hxl : x < L.length := by omega
      have d0 := HS.out.cell x hxl
      have hlx := HLO.out x
      have htx := HTO.out x
      have hlf := Lf_lt hxl
      rw [hlf] at hlx htx
      by_cases e : L[x] = -1
      · have HN : Hid (R = -1) := by
          show R = -1
          rw [← HR.out]
          unfold lof
          rw [hJ, lsum_none (by rw [hlf]; exact e)]
          rfl
        rw [e] at d0
        clear hJ hlf hlx htx HJ e
        go_wp2_with fail
        go_ret
        exact ⟨by rw [HN.out]; rfl, rfl⟩
      · rw [lsum_some (by rw [hlf]; exact e), hlf] at hJ
        obtain ⟨q, hq⟩ : ∃ q : Nat, L[x] = q := ⟨L[x].toNat, by omega⟩
        rw [hq] at d0 hJ hlx htx
        have HN : Hid (lsum (Lf L) (nats r) = (lsum (Lf L) ((nats r).drop (j + 1))).map (((s + q : Nat) : Int) + ·)) := by
          show lsum (Lf L) (nats r) = _
          rw [hJ]
          cases lsum (Lf L) ((nats r).drop (j + 1)) with
          | none => rfl
          | some t => simp [Int.add_assoc]
        have hq0 : ((q : Int) == -1) = false := by simp
        clear hJ hlf HJ e hq
        go_wp2_with fail
        exact ⟨⟨s + q, j + 1, by go_num, by go_num, by omega, by omega, by trivial, HN⟩, by simp [intOf]; omega⟩
    · have HN : Hid (R = min (s : Int) 1000) := by
        show R = _
        rw [← HR.out]
        unfold lof
        rw [HJ.out, List.drop_eq_nil_of_le (by simp [nats]; omega)]
        simp [lsum]
      go_wp2_with fail
      all_goals go_ret
      all_goals refine ⟨?_, rfl⟩
      all_goals rw [HN.out]
      all_goals show Ending.returned (Value.int .i64 _) = Ending.returned (Value.int .i64 _)
      all_goals congr 2
      all_goals omega
end Go.Proofs.Ytpbpmhgoppbfnaa
