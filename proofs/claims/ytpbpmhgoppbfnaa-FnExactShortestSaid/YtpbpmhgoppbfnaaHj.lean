import Derived.Test.YtpbpmhgoppbfnaaHi
import Derived.Test.YtpbpmhgoppbfnaaHf
/-! The specification: l04Cmp; rows that grow. -/
namespace Go.Proofs.Ytpbpmhgoppbfnaa
open Go.RowKit Go.Deep
set_option linter.unusedVariables false
set_option maxRecDepth 100000
set_option linter.unusedSimpArgs false

theorem rk_diff {p x y : List Nat} {a b : Nat} (hl : x.length = y.length) (hx : sml x) (hy : sml y) (hne : a ≠ b) : rk (p ++ a :: x) < rk (p ++ b :: y) ↔ a < b := by
  rw [rk_append, rk_append, List.length_cons, List.length_cons, hl]
  generalize rk p * 256 ^ (y.length + 1) = K
  rcases Nat.lt_or_gt_of_ne hne with e | e
  · have := rk_cons_lt hl hx e; omega
  · have := rk_cons_lt hl.symm hy e; omega
theorem tin_get {u : List Nat} {j : Nat} (h : j < u.length) : (tin u)[j]'(by rw [tin_len]; exact h) = (u[j] : Int) := by simp [tin]
set_option maxHeartbeats 3200000 in
theorem cmp_any {S1 S2 : Nat → Prop} (u v : List Nat) (hl : u.length = v.length) (hu : sml u) (hv : sml v) (h1000 : u.length ≤ 1000) (v1 v2 : Value) (w : World) (h1 : Ints w S1 (tin u) v1) (h2 : Ints w S2 (tin v) v2) :
    Calls Try.prog 28 #[v1, v2] w fun e w' => ∃ z : Int, e = .returned (.int .i64 z) ∧ (z < 0 ↔ rk u < rk v) ∧ Below w.heap.size w w' := by
  obtain ⟨a, cap, bb, off, rfl, hc, hm, ha, hcell⟩ := h1
  obtain ⟨a', cap', bb', off', rfl, hc', hm', ha', hcell'⟩ := h2
  have HC := (show Hid _ from hcell); clear hcell
  have HA := (show Hid _ from ha); clear ha
  have HC' := (show Hid _ from hcell'); clear hcell'
  have HA' := (show Hid _ from ha'); clear ha'
  have e1 := tin_len u
  have e2 := tin_len v
  have HE1 := (show Hid ((tin u).length = u.length ∧ (tin v).length = u.length) from ⟨e1, by rw [e2, hl]⟩)
  rw [e2, ← hl, e1]
  rw [e1] at hc
  have HL := (show Hid _ from hl)
  have HU := (show Hid _ from hu)
  have HV := (show Hid _ from hv)
  unfold maxLen at hm hm'
  clear e1 e2 hl hu hv hc'
  go_enter Try.func28, Try.ntmps28
  go_wp2_with fail
  go_loopw [5] (fun i wr => ∃ j : Nat, i = .int .i64 j ∧ j ≤ u.length ∧ Hid (Below w.heap.size w wr ∧ u.take j = v.take j)) (fun i _ => u.length - (intOf i).toNat)
  case atStart => exact ⟨0, rfl, Nat.zero_le _, Below.refl _ _, by simp⟩
  case round =>
    obtain ⟨j, rfl, hj, HJ⟩ := hrel
    by_cases hlt : j < u.length
    · have hlt' := hlt
      obtain ⟨rfl, _⟩ := HA.out (by rw [HE1.out.1]; omega)
      obtain ⟨rfl, _⟩ := HA'.out (by rw [HE1.out.2]; omega)
      have c0 := HC.out j (by rw [HE1.out.1]; omega)
      have c1 := HC'.out j (by rw [HE1.out.2]; omega)
      have hjv : j < v.length := by have := HL.out; omega
      rw [tin_get hlt'] at c0
      rw [tin_get hjv] at c1
      rw [← HJ.out.1.cell (lt_of_cell c0)] at c0
      rw [← HJ.out.1.cell (lt_of_cell c1)] at c1
      have su : u = u.take j ++ u[j] :: u.drop (j + 1) := by rw [← List.drop_eq_getElem_cons hlt', List.take_append_drop]
      have sv : v = v.take j ++ v[j] :: v.drop (j + 1) := by rw [← List.drop_eq_getElem_cons hjv, List.take_append_drop]
      have hx1 := HU.out _ (List.getElem_mem hlt')
      have hx2 := HV.out _ (List.getElem_mem hjv)
      have tu : u.take (j + 1) = u.take j ++ [u[j]] := (List.take_append_getElem hlt').symm
      have tv : v.take (j + 1) = v.take j ++ [v[j]] := (List.take_append_getElem hjv).symm
      have HD : Hid (u[j] ≠ v[j] → (rk u < rk v ↔ u[j] < v[j])) := by
        intro hne
        have h := rk_diff (p := u.take j) (x := u.drop (j + 1)) (y := v.drop (j + 1)) (a := u[j]) (b := v[j]) (by simp; have := HL.out; omega) (fun z hz => HU.out z (List.mem_of_mem_drop hz)) (fun z hz => HV.out z (List.mem_of_mem_drop hz)) hne
        rw [← su] at h
        have h2 := HJ.out.2
        rw [h2, ← sv] at h
        exact h
      have HT : Hid (u[j] = v[j] → u.take (j + 1) = v.take (j + 1)) := by
        intro e
        rw [tu, tv, e, HJ.out.2]
      clear su sv tu tv
      generalize u[j] = A at *
      generalize v[j] = B at *
      by_cases e : A = B
      · subst e
        have HN := (show Hid (∀ n, Below w.heap.size w (wr.drewN n) ∧ u.take (j + 1) = v.take (j + 1)) from fun n => ⟨bel_trans HJ.out.1 (bel_drewN _ _ n), HT.out rfl⟩)
        clear HD HT
        go_wp2_with fail
        go_quiet (fail)
        go_wp2_with fail
        exact ⟨⟨j + 1, by go_num, by omega, HN.out _⟩, by simp [intOf]; omega⟩
      · have k1 : ((A : Int) != (B : Int)) = true := by simp; omega
        have HB := (show Hid _ from HJ.out.1)
        have HD2 := (show Hid _ from HD.out e)
        clear HD HT HJ
        go_wp2_with fail
        go_quiet (fail)
        go_wp2_with fail
        go_quiet (fail)
        go_wp2_with fail
        go_ret
        refine ⟨(A : Int) - B, rfl, ?_, bel_trans (bel_trans HB.out (bel_drewN _ _ _)) (bel_drewN _ _ _)⟩
        rw [HD2.out]
        omega
    · have hje : j = u.length := by omega
      have HF : Hid (Below w.heap.size w wr ∧ ((0 : Int) < 0 ↔ rk u < rk v)) := by
        have h1 := HJ.out.2
        rw [List.take_of_length_le (by omega), List.take_of_length_le (by have := HL.out; omega)] at h1
        refine ⟨HJ.out.1, ?_⟩
        rw [h1]
        omega
      clear HJ
      go_wp2_with fail
      go_ret
      exact ⟨0, rfl, HF.out.2, HF.out.1⟩
/-- A row that is not nil grows. -/
theorem wpList_append_g {P : Program} {w : World} {ops : Array Oper} {rest : List Oper} {o : Oper} {a : Act} {Q : Exit → Act → World → Prop} (hgd : o.guard = none) (s x : Operand) (t : TypeId)
    (ho : o.op = .call { callee := .builtin .append, args := #[s, x], argTypes := #[t, t] })
    (base : Nat) (e : TypeId) (i : TypeInfo) (z : Value) (size bytes : Nat) (ht : P.underlying t = some (.slice e)) (hi : P.info? e = some i) (hz : i.zero = some z)
    (hsize : i.size = size) (hby : i.bytes = bytes) (hzs : z.cells.size = size) (hsz : 0 < size)
    (g0 c0 : Nat) (n : Nat) (xs : List Value) (hs : a.eval s = .slice (some ⟨g0, 0, none⟩) n c0) (hown : w.ownsRow base e size (.slice (some ⟨g0, 0, none⟩) n c0) n xs)
    (ad : Addr) (m c : Nat) (news : List Value) (hx : a.eval x = .slice (some ad) m c) (hl : news.length = m * size) (hnews : ∀ j u, news[j]? = some u → w.cell? (ad.add j) = some u) (h1 : ∀ u ∈ news, u.oneCell' = true)
    (h63 : n + m ≤ maxLen) (hbytes : (n + m) * bytes ≤ 140737488355328) (hbase : base ≤ w.heap.size)
    (h : ∀ g cap' w', w'.ownsRow base e size (.slice (some ⟨g, 0, none⟩) (n + m) cap') (n + m) (xs ++ news) → w.grownBy w' (some g0) → (some g0 = some g ∨ g = w.heap.size) → wpList P ops Q rest (a.put o.dst (.slice (some ⟨g, 0, none⟩) (n + m) cap')) w') :
    wpList P ops Q (o :: rest) a w := by
  refine wpList_append_own_at w hgd s x t ho base e i z size bytes ht hi hz hsize hby hzs hsz _ n xs hs hown ad m c news hx hl hnews h1 h63 hbytes hbase (fun v' w' h2 h3 h4 h5 => ?_)
  have hob : (Value.slice (some ⟨g0, 0, none⟩) n c0).ownBlock = some g0 := rfl
  rw [hob] at h5 h3
  obtain ⟨g, cap', rfl⟩ : ∃ g cap', v' = .slice (some ⟨g, 0, none⟩) (n + m) cap' := by
    rcases h2.2 with ⟨rfl, _⟩ | ⟨g, cp, cur, r1, _⟩
    · rcases h5 with h5 | h5 <;> cases h5
    · exact ⟨g, cp, r1⟩
  refine h g cap' w' h2 h3 ?_
  rcases h5 with h5 | h5
  · exact .inl h5.symm
  · exact .inr (by simpa [Value.ownBlock] using h5)
theorem own_kept {w w' : World} {B e z : Nat} {v : Value} {n : Nat} {xs : List Value} (h : w.ownsRow B e z v n xs) (hb : ∀ k, v.ownBlock = some k → w'.heap[k]? = w.heap[k]?) : w'.ownsRow B e z v n xs := by
  refine ⟨h.1, ?_⟩
  rcases h.2 with h0 | ⟨g, cp, cur, r1, r2, r3, r4⟩
  · exact .inl h0
  · exact .inr ⟨g, cp, cur, r1, r2, by rw [hb g (by rw [r1]; rfl)]; exact r3, r4⟩
theorem own_low {w : World} {B B' e z : Nat} {v : Value} {n : Nat} {xs : List Value} (h : w.ownsRow B e z v n xs) (hb : B' ≤ B) : w.ownsRow B' e z v n xs := by
  refine ⟨h.1, ?_⟩
  rcases h.2 with h0 | ⟨g, cp, cur, r1, r2, r4⟩
  · exact .inl h0
  · exact .inr ⟨g, cp, cur, r1, by omega, r4⟩
end Go.Proofs.Ytpbpmhgoppbfnaa
