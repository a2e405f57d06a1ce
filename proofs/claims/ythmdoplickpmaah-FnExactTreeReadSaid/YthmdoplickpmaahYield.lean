import Derived.Test.YthmdoplickpmaahForm
import Derived.Test.YthmdoplickpmaahTree
import Derived.Lib.AppendStr
namespace Go.Proofs.Ythmdoplickpmaah
open Go.RowKit Go.Deep Go.Lib
set_option linter.unusedVariables false
set_option linter.unusedSimpArgs false

/-- A list of bytes, as a string; as cells. -/
def bs (l : List UInt8) : ByteArray := ⟨l.toArray⟩
def bc (l : List UInt8) : List Value := l.map fun b => Value.int .u8 b.toNat
theorem bs_data (s : ByteArray) : bs s.data.toList = s := rfl
theorem bs_append (x y : List UInt8) : bs x ++ bs y = bs (x ++ y) := ByteArray.mk_append_mk x y
theorem bs_size (l : List UInt8) : (bs l).size = l.length := by show l.toArray.size = _; simp
theorem bc_append (x y : List UInt8) : bc (x ++ y) = bc x ++ bc y := by simp [bc]
theorem bc_length (l : List UInt8) : (bc l).length = l.length := by simp [bc]
theorem bc_str (s : ByteArray) : strCells s = bc s.data.toList := rfl
theorem bc_bs (l : List UInt8) : strCells (bs l) = bc l := by simp [bc_str, bs]

namespace Tr
/-- The texts of the leaves, in order (of a tree that is right). -/
def yl : Tr → List UInt8 := fold fun _ x _ ks => x.data.toList ++ ks.flatten
def ylL (k : List Tr) : List UInt8 := (k.map yl).flatten
theorem yl_mk (n x : ByteArray) (l : Bool) (k : List Tr) : yl ⟨n, x, l, k⟩ = x.data.toList ++ ylL k := by
  unfold ylL yl; rw [fold_mk]
theorem ylL_take_succ (k : List Tr) (i : Nat) (h : i < k.length) : ylL (k.take (i + 1)) = ylL (k.take i) ++ yl k[i] := by
  rw [List.take_succ_eq_append_getElem h]; simp only [ylL, List.map_append, List.flatten_append, List.map_cons, List.map_nil, List.flatten_cons, List.flatten_nil, List.append_nil]
theorem ylL_len (k : List Tr) (h : ∀ i (hi : i < k.length), (yl k[i]).length ≤ wt k[i]) : (ylL k).length ≤ wtL k := by
  induction k with
  | nil => simp [ylL]
  | cons t r ih =>
    have h0 := h 0 (by simp)
    have h1 := ih (fun i hi => h (i + 1) (by simp; omega))
    simp [ylL, wtL] at h0 h1 ⊢; omega
theorem yl_len (t : Tr) : (yl t).length ≤ wt t := by
  refine ind (P := fun t => (yl t).length ≤ wt t) ?_ t
  intro n x l k ih
  rw [yl_mk, wt_mk, List.length_append]
  have := ylL_len k ih
  have : x.data.toList.length = x.size := rfl
  omega
theorem ylL_take_len (k : List Tr) (i : Nat) : (ylL (k.take i)).length ≤ wtL k := by
  have h1 := ylL_len (k.take i) (fun j hj => yl_len _)
  have h2 := wtL_take_le k i
  omega
end Tr

theorem info5 : (Try.prog.info? 5).map (fun i => (i.zero, i.size, i.bytes)) = some (some (.int .u8 0), 1, 1) := by kernel_rfl

/-- What a call that appends leaves behind: the row that it hands on holds so much more; below B nothing has turned. -/
def Wrote (B : Nat) (w : World) (n : Nat) (xs : List Value) (l : List UInt8) (e : Ending) (w' : World) : Prop :=
  ∃ v', e = .returned v' ∧ w'.ownsRow B 5 1 v' (n + l.length) (xs ++ bc l) ∧ Below B w w'

theorem own_slice {w : World} {base : Nat} {e : TypeId} {size : Nat} {v : Value} {n : Nat} {xs : List Value} (h : w.ownsRow base e size v n xs) : ∃ a cap, v = .slice a n cap := by
  obtain ⟨_, h⟩ := h
  rcases h with ⟨rfl, rfl⟩ | ⟨g, cap, _, rfl, _⟩
  · exact ⟨_, _, rfl⟩
  · exact ⟨_, _, rfl⟩

set_option maxHeartbeats 400000 in
theorem leafYield (B : Nat) (nm x : ByteArray) (v : Value) (n : Nat) (xs : List Value) (w : World) (hB : B ≤ w.heap.size) (hown : w.ownsRow B 5 1 v n xs) (hn : n + x.size ≤ 4194304) :
    Calls Try.prog 94 #[.agg #[.string nm, .string x], v] w fun e w' => Wrote B w n xs x.data.toList e w' := by
  obtain ⟨i5, hi5, hz0, hz1, hz2⟩ := info_parts info5
  obtain ⟨a0, c0, rfl⟩ := own_slice hown
  have hown2 := hown.alloc (.cells #[.string nm, .string x] 74)
  have HO := (show Hid _ from hown2)
  have HO1 := (show Hid _ from hown); clear hown hown2
  go_enter Try.func94, Try.ntmps94
  go_wp2_with (at_builtin; refine wpList_append_own_string (w := _) rfl (.tmp 5) (.tmp 7) 53 9 rfl B 5 i5 Try.underlying53 Try.underlying9 hi5 hz0 hz1 hz2 _ n xs rfl HO.out x rfl ?c1 ?c2 ?c3 ?nx)
  case c1 => unfold maxLen; omega
  case c2 => omega
  case c3 => simp; omega
  case nx =>
    intro v' w' hown' hgr _
    have hb : Below B w w' := ((bel_alloc w (.cells #[.string nm, .string x] 74)).mono hB).grown hgr (by simp; omega) (fun k hk => (World.ownsRow.lt HO.out k hk).1)
    obtain ⟨a1, c1, rfl⟩ := own_slice hown'
    have HW : Hid (Wrote B w n xs x.data.toList (.returned (.slice a1 (n + x.size) c1)) w') := ⟨_, rfl, by rw [← bc_str]; exact hown', hb⟩
    clear hown' hgr hb
    go_wp2_with fail
    go_ret
    exact HW.out

/-- A method that appends, called through the interface. -/
def Invoked (fl fn : Nat) (u v : Value) (w : World) (R : Ending → World → Prop) : Prop :=
  (∃ X, u = .iface 74 X ∧ Calls Try.prog fl #[X, v] w R) ∨ (∃ X, u = .iface 77 X ∧ Calls Try.prog fn #[X, v] w R)

theorem method_yieldL (X : Value) (w : World) : (method 211 74 X "loop.example/g00037/impl.yield").run Try.prog w = .ok (94, X) w := by kernel_rfl
theorem method_yieldN (X : Value) (w : World) : (method 211 77 X "loop.example/g00037/impl.yield").run Try.prog w = .ok (99, X) w := by kernel_rfl

set_option maxHeartbeats 800000 in
theorem yield_any (B : Nat) (t : Tr) : ∀ (u v : Value) (n : Nat) (xs : List Value) (w : World), Form w (fun b => b < B) t u → t.right = true → B ≤ w.heap.size → w.ownsRow B 5 1 v n xs → n + t.wt ≤ 4194304 →
    Invoked 94 99 u v w fun e w' => Wrote B w n xs t.yl e w' := by
  refine Tr.ind (P := fun t => ∀ (u v : Value) (n : Nat) (xs : List Value) (w : World), Form w (fun b => b < B) t u → t.right = true → B ≤ w.heap.size → w.ownsRow B 5 1 v n xs → n + t.wt ≤ 4194304 →
    Invoked 94 99 u v w fun e w' => Wrote B w n xs t.yl e w') ?_ t
  intro nm x l k ih u v n xs w hform hr hB hown hwt
  rw [Tr.wt_mk] at hwt
  rw [Tr.right_mk] at hr
  simp at hr
  obtain ⟨hal, hrl⟩ := hr
  rw [Tr.yl_mk]
  rcases hform.out with ⟨rfl, _, _, rfl⟩ | ⟨rfl, hn, cap, b, fv, rfl, hc, hm, hSb, hb, hcell, hk⟩
  · -- a leaf: it has no Kids
    have hk0 : k = [] := by
      rcases Tr.alone_yes hal with ⟨_, h, _⟩ | ⟨h, _⟩
      · exact List.length_eq_zero_iff.1 (by omega)
      · simp at h
    subst hk0
    refine .inl ⟨_, rfl, ?_⟩
    have := leafYield B nm x v n xs w hB hown (by omega)
    simpa [Tr.ylL] using this
  · have hx0 : x.data.toList = [] := by
      rcases Tr.alone_yes hal with ⟨h, _⟩ | ⟨_, h⟩
      · simp at h
      · rw [ByteArray.toList_eq] at h; exact List.isEmpty_iff.1 h
    rw [hx0, List.nil_append]
    refine .inr ⟨_, rfl, ?_⟩
    dsimp only at hn hc hcell hk ⊢
    have hrk : ∀ i (hi : i < k.length), k[i].right = true := fun i hi => by
      have h := Tr.rightL_take k (i + 1) hrl
      rw [Tr.rightL_take_succ k i hi] at h
      simp at h
      exact h.2
    have HI := (show Hid _ from ih); clear ih
    have HC := (show Hid _ from hcell); clear hcell
    have HK := (show Hid _ from hk); clear hk
    have HR := (show Hid _ from hrk); clear hrk hx0 hal hrl
    unfold maxLen at hm
    obtain ⟨a0, c0, rfl⟩ := own_slice hown
    have HO := (show Hid _ from hown.alloc (.cells #[.string nm, .slice (some ⟨b, 0, none⟩) k.length cap] 77))
    have HO1 := (show Hid _ from hown); clear hown
    go_enter Try.func99, Try.ntmps99
    go_wp2_with fail
    go_loopw [1, 10] (fun o i wr => ∃ j : Nat, j ≤ k.length ∧ i = .int .i64 j ∧ (∃ a c, o = .slice a (n + (Tr.ylL (k.take j)).length) c) ∧ Hid (wr.ownsRow B 5 1 o (n + (Tr.ylL (k.take j)).length) (xs ++ bc (Tr.ylL (k.take j)))) ∧ Below B w wr ∧ B ≤ wr.heap.size) (fun _ i _ => k.length - (intOf i).toNat)
    case atStart =>
      refine ⟨0, Nat.zero_le _, rfl, ⟨a0, c0, by simp [Tr.ylL]⟩, ?_, (bel_alloc _ _).mono hB, by simp; omega⟩
      have h := HO.out
      show World.ownsRow _ B 5 1 _ _ _
      have e1 : Tr.ylL (k.take 0) = [] := by simp [Tr.ylL]
      rw [e1]
      simp only [List.length_nil, Nat.add_zero, bc, List.map_nil, List.append_nil]
      exact h
    case round =>
      obtain ⟨j, hj, rfl, ⟨a1, c1, rfl⟩, HOW, hbw, hBr⟩ := hrel
      by_cases hlt : j < k.length
      · have cK := HC.out j hlt
        rw [← hbw.cell (by exact hSb)] at cK
        have hfj : Form wr (fun b => b < B) k[j] (fv j) := (HK.out j hlt).carry (fun b hb _ => ⟨hb, by omega⟩) (fun b o hb _ => hbw.cell (p := ⟨b, o, none⟩) hb)
        have hl1 := Tr.ylL_take_len k j
        have g1 := Tr.ylL_take_succ k j hlt
        have g2 := Tr.ylL_take_len k (j + 1)
        have hlw := Tr.wtL_take_succ k j hlt
        have hlw2 := Tr.wtL_take_le k (j + 1)
        have hl2 := Tr.ylL_len (k.take j) (fun i hi => Tr.yl_len _)
        have hcl := HI.out j hlt (fv j) _ _ _ wr hfj (HR.out j hlt) hBr HOW.out (by omega)
        have HG := (show Hid _ from g1); clear g1 g2 hlw hlw2 hl1 hl2
        rcases hcl with ⟨X, hX, hcl⟩ | ⟨X, hX, hcl⟩
        · rw [hX] at cK
          have HCL := (show Hid _ from hcl); clear hcl hX
          have hme := method_yieldL X
          go_wp2_with fail
          refine Calls.mono HCL.out ?_
          rintro e w2 ⟨v', rfl, hown2, hb2⟩
          obtain ⟨a2, c2, rfl⟩ := own_slice hown2
          have hb3 : Below B w w2 := hbw.trans hb2
          have hB2 : B ≤ w2.heap.size := Nat.le_trans hBr hb2.size
          have el : n + (Tr.ylL (k.take j)).length + k[j].yl.length = n + (Tr.ylL (k.take (j + 1))).length := by rw [HG.out, List.length_append, Nat.add_assoc]
          have ex : xs ++ bc (Tr.ylL (k.take j)) ++ bc k[j].yl = xs ++ bc (Tr.ylL (k.take (j + 1))) := by rw [HG.out, bc_append, List.append_assoc]
          rw [el, ex] at hown2
          rw [el]
          have HOW2 := (show Hid _ from hown2); clear hown2 el ex
          go_wp2_with fail
          exact ⟨⟨j + 1, by omega, by go_num, ⟨a2, c2, rfl⟩, HOW2, hb3, hB2⟩, by simp [intOf]; omega⟩
        · rw [hX] at cK
          have HCL := (show Hid _ from hcl); clear hcl hX
          have hme := method_yieldN X
          go_wp2_with fail
          refine Calls.mono HCL.out ?_
          rintro e w2 ⟨v', rfl, hown2, hb2⟩
          obtain ⟨a2, c2, rfl⟩ := own_slice hown2
          have hb3 : Below B w w2 := hbw.trans hb2
          have hB2 : B ≤ w2.heap.size := Nat.le_trans hBr hb2.size
          have el : n + (Tr.ylL (k.take j)).length + k[j].yl.length = n + (Tr.ylL (k.take (j + 1))).length := by rw [HG.out, List.length_append, Nat.add_assoc]
          have ex : xs ++ bc (Tr.ylL (k.take j)) ++ bc k[j].yl = xs ++ bc (Tr.ylL (k.take (j + 1))) := by rw [HG.out, bc_append, List.append_assoc]
          rw [el, ex] at hown2
          rw [el]
          have HOW2 := (show Hid _ from hown2); clear hown2 el ex
          go_wp2_with fail
          exact ⟨⟨j + 1, by omega, by go_num, ⟨a2, c2, rfl⟩, HOW2, hb3, hB2⟩, by simp [intOf]; omega⟩
      · go_wp2_with fail
        go_ret
        have : j = k.length := by omega
        subst this
        have h := HOW.out
        rw [List.take_length] at h ⊢
        exact ⟨_, rfl, h, hbw⟩
end Go.Proofs.Ythmdoplickpmaah
