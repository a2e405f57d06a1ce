import Derived.Test.YtflhfimgeladaaaQn
import Derived.Test.YtflhfimgeladaaaQg
/-! Marks in a table. -/
namespace Go.Proofs.Ytflhfimgeladaaa
open Go.RowKit Go.Deep
set_option linter.unusedVariables false
set_option maxRecDepth 100000
set_option linter.unusedSimpArgs false

abbrev hdA (u : Value) (rv : List (Value × List (Int × Int))) : Ent := ⟨69, 1, u, rv.length, rv.map (·.1)⟩
abbrev hdG (u : Value) (rv : List (Value × List Int)) : Ent := ⟨46, 1, u, rv.length, rv.map (·.1)⟩
abbrev nmI (u : Value) (l : List Int) : Ent := ⟨3, 1, u, l.length, encI l⟩
theorem Own.up1 {w : World} {B : Nat} {xs ys zs : List Ent} (h : Own w B (xs ++ (ys ++ zs))) : Own w B (ys ++ (xs ++ zs)) :=
  h.perm (by rw [← List.append_assoc, ← List.append_assoc]; exact List.perm_append_comm.append_right zs)
theorem Own.turn4 {w : World} {B : Nat} {a b c d fs : List Ent} (h : Own w B (a ++ (b ++ (c ++ (d ++ fs))))) : Own w B (c ++ (d ++ (a ++ (b ++ fs)))) := by
  have h1 : Own w B ((a ++ b) ++ ((c ++ d) ++ fs)) := by simpa [List.append_assoc] using h
  simpa [List.append_assoc] using h1.up1
theorem Own.rot {w : World} {B : Nat} {xs ys : List Ent} (h : Own w B (xs ++ ys)) : Own w B (ys ++ xs) := h.perm List.perm_append_comm
/-- A box, as a row of one. -/
def bx (T k g : Nat) (cs : List Value) : Ent := ⟨T, k, .slice (some ⟨g, 0, none⟩) 1 1, 1, cs⟩
theorem Own.box {w : World} {B T k : Nat} {es : List Ent} (h : Own w B es) (cs : Array Value) (hB : B ≤ w.heap.size) (hk : cs.size = 1 * k) : Own (w.alloc (.cells cs T)) B (bx T k w.heap.size cs.toList :: es) :=
  h.add (bel_alloc _ _) (by
    show World.ownsRow _ _ _ _ _ _ _
    exact World.ownsRow_lit (base := B) (e := T) (size := k) w cs 1 hB (by unfold maxLen; omega) hk) (fun b hb => by
    have : w.heap.size = b := by simpa [bx, Value.ownBlock] using hb
    omega)
theorem bx_cell {w : World} {B T k g : Nat} {cs : List Value} (h : (bx T k g cs).ok w B) {i : Nat} {u : Value} (hi : cs[i]? = some u) : w.cell? ⟨g, i, none⟩ = some u := by
  have h' : w.ownsRow B T k (.slice (some ⟨g, 0, none⟩) 1 1) 1 cs := h
  obtain ⟨a, cap, g', e, _, _, ha, hc⟩ := own_cell h'
  obtain ⟨e2, _⟩ := ha (by omega)
  injection e with e1
  rw [e2] at e1
  injection e1 with e1
  injection e1 with e1
  subst e1
  exact hc i u hi
/-- What a table of rows that are owned is. -/
abbrev TEnt (u0 u1 : Value) (ra : List (Value × List (Int × Int))) (rg : List (Value × List Int)) (fs : List Ent) : List Ent := [hdA u0 ra] ++ (ra.map entA ++ ([hdG u1 rg] ++ (rg.map entI ++ fs)))
set_option maxHeartbeats 1600000 in
theorem markT_any (B k : Nat) (u0 u1 : Value) (ra : List (Value × List (Int × Int))) (rg : List (Value × List Int)) (fs : List Ent) (w : World) (h : Own w B (TEnt u0 u1 ra rg fs)) (hB : B ≤ w.heap.size) (hla : ra.length ≤ 1048576) (hlg : rg.length ≤ 1048576) (hsa : ∀ p ∈ ra, p.2.length ≤ 1048576) (hsg : ∀ p ∈ rg, p.2.length ≤ 1048576) (hk : k ≤ 1) :
    Calls Try.prog 17 #[.agg #[u0, u1], .int .i64 k] w fun e w' => ∃ m : Nat, e = .returned (.int .i64 m) ∧ Below B w w' ∧ Own w' B fs := by
  have ho1 : Own (w.alloc (.cells #[u0, u1] 41)) B (bx 41 2 w.heap.size [u0, u1] :: TEnt u0 u1 ra rg fs) := h.box #[u0, u1] hB rfl
  have hb1 : Below B w (w.alloc (.cells #[u0, u1] 41)) := (bel_alloc _ _).mono hB
  have ho2 : Own (w.alloc (.cells #[u0, u1] 41)) B ([hdA u0 ra] ++ (ra.map entA ++ ([hdG u1 rg] ++ (rg.map entI ++ (fs ++ [bx 41 2 w.heap.size [u0, u1]]))))) := by
    have := (show Own _ B ([bx 41 2 w.heap.size [u0, u1]] ++ TEnt u0 u1 ra rg fs) from ho1).rot
    simpa [TEnt, List.append_assoc] using this
  have HC1 := (show Hid _ from markRA_any B k u0 ra ([hdG u1 rg] ++ (rg.map entI ++ (fs ++ [bx 41 2 w.heap.size [u0, u1]]))) (w.alloc (.cells #[u0, u1] 41)) ho2 hla hsa (by simp; omega) (by omega))
  have htA : tot (ra.map entA) ≤ 2199023255552 := by
    have h1 := tot_le (es := ra.map entA) (m := 2097152) (fun e he => by
      obtain ⟨p, hp, rfl⟩ := List.mem_map.1 he
      have := hsa p hp
      show (encA p.2).length ≤ _
      rw [encA_len]; omega)
    simp only [List.length_map] at h1
    omega
  have HC2 := (show Hid _ from fun (w' : World) (hB' : B ≤ w'.heap.size) (m : Nat) (hm : m ≤ 1 + 2199023255552) (gs : List Ent) (ho : Own w' B (hdG u1 rg :: (rg.map entI ++ gs))) => markRI_any B m u1 rg gs w' ho hlg hsg hB' (by omega))
  have hA0 : w.ownsRow B 69 1 u0 ra.length (ra.map (·.1)) := h.ok (hdA u0 ra) (by simp [TEnt])
  have hG0 : w.ownsRow B 46 1 u1 rg.length (rg.map (·.1)) := h.ok (hdG u1 rg) (by simp [TEnt])
  have HBX := (show Hid _ from fun (w' : World) (gs : List Ent) (ho : Own w' B gs) (hm : bx 41 2 w.heap.size [u0, u1] ∈ gs) => (⟨bx_cell (i := 0) (ho.ok _ hm) rfl, bx_cell (i := 1) (ho.ok _ hm) rfl⟩ : w'.cell? ⟨w.heap.size, 0, none⟩ = some u0 ∧ w'.cell? ⟨w.heap.size, 1, none⟩ = some u1))
  obtain ⟨c0, c1⟩ := HBX.out _ _ ho1 (List.mem_cons_self ..)
  obtain ⟨p0, q0, _, rfl, _⟩ := own_cell hA0
  obtain ⟨p1, q1, _, rfl, _⟩ := own_cell hG0
  have HB1 := (show Hid _ from hb1)
  clear h ho1 ho2 hb1 hA0 hG0
  generalize tot (ra.map entA) = tA at *
  go_enter Try.func17, Try.ntmps17
  go_wp2_with fail
  refine Calls.mono HC1.out ?_
  rintro e w1 ⟨rfl, hb1, ho1⟩
  have ho2 := (show Own w1 B ([hdA (.slice p0 ra.length q0) ra] ++ (mkE k (ra.map entA) ++ ([hdG (.slice p1 rg.length q1) rg] ++ (rg.map entI ++ (fs ++ [bx 41 2 w.heap.size [.slice p0 ra.length q0, .slice p1 rg.length q1]]))))) from ho1).turn4
  clear c0 c1
  obtain ⟨c0, c1⟩ := HBX.out w1 _ ho1 (by simp)
  have HB2 := (show Hid _ from HB1.out.trans hb1)
  have HC3 := (show Hid _ from HC2.out w1 (Nat.le_trans hB HB2.out.size) (k + tA) (by omega) _ ho2)
  clear ho1 ho2 hb1 HC1
  obtain ⟨M, hM⟩ : ∃ M, k + tA = M := ⟨_, rfl⟩
  rw [hM] at HC3 ⊢
  clear hM
  go_wp2_with fail
  refine Calls.mono HC3.out ?_
  rintro e w2 ⟨rfl, hb2, ho2⟩
  have HF := (show Hid _ from (⟨HB2.out.trans hb2, by
    have h1 : Own w2 B fs := ho2.sub (by
      refine List.Sublist.cons _ ?_
      refine List.Sublist.trans ?_ (List.sublist_append_right _ _)
      refine List.Sublist.cons _ ?_
      refine List.Sublist.trans ?_ (List.sublist_append_right _ _)
      exact (List.sublist_append_left _ _).trans (List.sublist_append_right _ _))
    exact h1⟩ : Below B w w2 ∧ Own w2 B fs))
  clear hb2 ho2 c0 c1 HC3
  obtain ⟨M2, hM2⟩ : ∃ M2, M + tot (rg.map entI) = M2 := ⟨_, rfl⟩
  rw [hM2]
  clear hM2
  go_wp2_with fail
  go_ret
  exact ⟨M2, rfl, HF.out⟩
end Go.Proofs.Ytflhfimgeladaaa
