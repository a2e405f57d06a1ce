import Derived.Test.YtflhfimgeladaaaQg
import Derived.Test.YtflhfimgeladaaaSs
import Derived.Test.YtflhfimgeladaaaQo
/-! The specification: rows of one length. -/
namespace Go.Proofs.Ytflhfimgeladaaa
open Go.RowKit Go.Deep
set_option linter.unusedVariables false
set_option maxRecDepth 100000
set_option linter.unusedSimpArgs false

/-- append at a step of a region that draws, whatever is appended. -/
theorem step_append_at {P : Program} (w : World) {ops : Array Oper} {o : Oper} {a : Act} {K : Act → World → Prop} {Q : Exit → Act → World → Prop} {E : Prop} (hgd : o.guard = none) (s x : Operand) (t : TypeId)
    (ho : o.op = .call { callee := .builtin .append, args := #[s, x], argTypes := #[t, t] })
    (base : Nat) (e : TypeId) (i : TypeInfo) (z : Value) (size bytes : Nat) (ht : P.underlying t = some (.slice e)) (hi : P.info? e = some i) (hz : i.zero = some z)
    (hsize : i.size = size) (hby : i.bytes = bytes) (hzs : z.cells.size = size) (hsz : 0 < size)
    (v : Value) (n : Nat) (xs : List Value) (hs : a.eval s = v) (hown : w.ownsRow base e size v n xs)
    (ad : Addr) (m c : Nat) (news : List Value) (hx : a.eval x = .slice (some ad) m c) (hl : news.length = m * size) (hnews : ∀ j u, news[j]? = some u → w.cell? (ad.add j) = some u) (h1 : ∀ u ∈ news, u.oneCell' = true)
    (h63 : n + m ≤ maxLen) (hbytes : (n + m) * bytes ≤ 140737488355328) (hbase : base ≤ w.heap.size)
    (h : ∀ a' cap' w', w'.ownsRow base e size (.slice a' (n + m) cap') (n + m) (xs ++ news) → w.grownBy w' v.ownBlock → K (a.put o.dst (.slice a' (n + m) cap')) w') :
    if Region.wanted o (yielded ops a.tmps) = true then Oper.wp P o a w K Q else E := by
  have hw : Region.wanted o (yielded ops a.tmps) = true := by simp [Region.wanted, hgd]
  rw [if_pos hw]
  obtain ⟨v', w', hr, h2, h3, h4, h5⟩ := run_append_own_at (P := P) w base t o.type e i z size bytes ht hi hz hsize hby hzs hsz v n xs hown ad m c news hl hnews h1 h63 hbytes hbase
  obtain ⟨a', cap', _, e', _⟩ := own_cell h2
  subst e'
  unfold Oper.wp execOp
  simp only [ho, resolve, invoke, builtin, Sem.run_bind, Sem.run_pure, Result.andThen_ok, List.map_toArray, List.map_cons, List.map_nil, hs, hx, hr]
  exact h a' cap' w' h2 h3
set_option maxHeartbeats 6400000 in
theorem sEven_any {S : Nat → Prop} (t : Tb) (x0 x1 : Value) (w : World) (h : TLies w S t x0 x1) :
    Calls Try.prog 51 #[.agg #[x0, x1]] w fun e w' => e = .returned (.bool (evB t)) ∧ Below w.heap.size w w' := by
  have hma := h.acts.form
  have hmg := h.gotos.form
  obtain ⟨e0, f0, rfl, hma⟩ := hma
  obtain ⟨e1, f1, rfl, hmg⟩ := hmg
  unfold maxLen at hma hmg
  have hb0 := bel_alloc w (.cells #[.slice e0 t.acts.length f0, .slice e1 t.gotos.length f1] 41)
  have q2 := box2_alloc w 41 (.slice e0 t.acts.length f0) (.slice e1 t.gotos.length f1)
  have ht0 := h.still hb0
  have HQ := (show Hid _ from fun (w' : World) (hb : Below (w.alloc (.cells #[.slice e0 t.acts.length f0, .slice e1 t.gotos.length f1] 41)).heap.size (w.alloc (.cells #[.slice e0 t.acts.length f0, .slice e1 t.gotos.length f1] 41)) w') => (⟨(q2.still hb).cells.1, ht0.still hb⟩ : Two w' w.heap.size (.slice e0 t.acts.length f0) (.slice e1 t.gotos.length f1) ∧ TLies w' S t (.slice e0 t.acts.length f0) (.slice e1 t.gotos.length f1)))
  have HB0 := (show Hid _ from hb0)
  clear h ht0 q2 hb0
  generalize hR : evB t = R
  unfold evB at hR
  by_cases h1 : t.acts.length ≤ 250
  case neg =>
    obtain rfl : R = false := by rw [← hR, decide_eq_false h1]; rfl
    have i1 : decide ((t.acts.length : Int) > 250) = true := by simp; omega
    obtain ⟨⟨y0, y1⟩, _⟩ := HQ.out _ (Below.refl _ _)
    clear hR h1
    go_enter Try.func51, Try.ntmps51
    go_wp2_with fail
    go_ret
    exact ⟨rfl, HB0.out⟩
  have i1 : decide ((t.acts.length : Int) > 250) = false := by simp; omega
  by_cases h2 : t.gotos.length = t.acts.length
  case neg =>
    obtain rfl : R = false := by rw [← hR, decide_eq_false h2]; simp
    have i2 : ((t.acts.length : Int) != (t.gotos.length : Int)) = true := by simp; omega
    obtain ⟨⟨y0, y1⟩, _⟩ := HQ.out _ (Below.refl _ _)
    clear hR h1 h2
    go_enter Try.func51, Try.ntmps51
    go_wp2_with fail
    go_ret
    exact ⟨rfl, HB0.out⟩
  have i2 : ((t.acts.length : Int) != (t.gotos.length : Int)) = false := by simp; omega
  rw [decide_eq_true h1, decide_eq_true h2, Bool.true_and, Bool.true_and] at hR
  have HWA : Hid (∀ i (hi : i < t.acts.length), t.acts[i].length ≠ (t.acts.getD 0 []).length → R = false) := fun i hi hf => by rw [← hR, all_false_at (p := fun r => decide (r.length = (t.acts.getD 0 []).length)) i hi (decide_eq_false hf)]; rfl
  have HWG : Hid (∀ i (hi : i < t.gotos.length), t.gotos[i].length ≠ (t.gotos.getD 0 []).length → R = false) := fun i hi hf => by rw [← hR, all_false_at (p := fun r => decide (r.length = (t.gotos.getD 0 []).length)) i hi (decide_eq_false hf), Bool.and_false]
  have HWT : Hid ((∀ i (hi : i < t.acts.length), t.acts[i].length = (t.acts.getD 0 []).length) → (∀ i (hi : i < t.gotos.length), t.gotos[i].length = (t.gotos.getD 0 []).length) → R = true) := fun h1 h2 => by rw [← hR, all_true_of (p := fun r => decide (r.length = (t.acts.getD 0 []).length)) (fun i hi => decide_eq_true (h1 i hi)), all_true_of (p := fun r => decide (r.length = (t.gotos.getD 0 []).length)) (fun i hi => decide_eq_true (h2 i hi))]; rfl
  have HNX : Hid (∀ s, s < t.acts.length → s < t.gotos.length) := fun s hs => by show s < t.gotos.length; omega
  have HG3 := (show Hid _ from h2)
  have HLA0 : Hid (∀ (h : 0 < t.acts.length), t.acts[0].length = (t.acts.getD 0 []).length) := fun h => by simp [List.getD_eq_getElem?_getD, h]
  have HLG0 : Hid (∀ (h : 0 < t.gotos.length), t.gotos[0].length = (t.gotos.getD 0 []).length) := fun h => by simp [List.getD_eq_getElem?_getD, h]
  clear hR
  generalize (t.acts.getD 0 []).length = LA0 at *
  generalize (t.gotos.getD 0 []).length = LG0 at *
  obtain ⟨⟨y0, y1⟩, _⟩ := HQ.out _ (Below.refl _ _)
  clear h1 h2
  go_enter Try.func51, Try.ntmps51
  go_wp2_with fail
  clear y0 y1 i1 i2
  generalize hW : (w.alloc (.cells #[.slice e0 t.acts.length f0, .slice e1 t.gotos.length f1] 41)) = W at *
  clear hW
  go_loopw [3] (fun i wr => ∃ s : Nat, i = .int .i64 s ∧ s ≤ t.acts.length ∧ Hid (Below W.heap.size W wr ∧ (∀ i (hi : i < t.acts.length), i < s → t.acts[i].length = LA0) ∧ ∀ i (hi : i < t.gotos.length), i < s → t.gotos[i].length = LG0)) (fun i _ => t.acts.length - (intOf i).toNat)
  case atStart => exact ⟨0, rfl, Nat.zero_le _, Below.refl _ _, fun i hi h0 => absurd h0 (Nat.not_lt_zero _), fun i hi h0 => absurd h0 (Nat.not_lt_zero _)⟩
  case round =>
    obtain ⟨s, rfl, hs, HX⟩ := hrel
    obtain ⟨⟨y0, y1⟩, htl⟩ := HQ.out wr HX.out.1
    have HWB := (show Hid _ from bel_trans HB0.out HX.out.1)
    by_cases hlt : s < t.acts.length
    · have hlt' := hlt
      have hltg := HNX.out s hlt'
      have h0a : 0 < t.acts.length := by omega
      have h0g : 0 < t.gotos.length := by omega
      obtain ⟨ea, ca, ba, oa, sa, e8, hca, hma', haa, hcella, hra⟩ := htl.acts
      obtain ⟨eg, cg, bg, og, sg, e9, hcg, hmg', hag, hcellg, hrg⟩ := htl.gotos
      injection e8 with e81 e82 e83
      injection e9 with e91 e92 e93
      obtain ⟨rfl, _⟩ := haa h0a
      obtain ⟨rfl, _⟩ := hag h0g
      subst e81 e91
      have kA := hcella s hlt'
      have kG := hcellg s hltg
      have zA := hcella 0 h0a
      have zG := hcellg 0 h0g
      obtain ⟨a2, p2, eA, hm2⟩ := (hra s hlt').form
      obtain ⟨a5, p5, eG, hm5⟩ := (hrg s hltg).form
      obtain ⟨a6, p6, eA0, hm6⟩ := (hra 0 h0a).form
      obtain ⟨a7, p7, eG0, hm7⟩ := (hrg 0 h0g).form
      rw [eA] at kA
      rw [eG] at kG
      rw [eA0, Nat.add_zero] at zA
      rw [eG0, Nat.add_zero] at zG
      unfold maxLen at hm2 hm5 hm6 hm7
      have HWA2 := (show Hid _ from HWA.out s hlt')
      have HWG2 := (show Hid _ from HWG.out s hltg)
      rw [HLA0.out h0a] at zA hm6
      rw [HLG0.out h0g] at zG hm7
      have HNA := (show Hid _ from fun (h1 : t.acts[s].length = LA0) (h2 : t.gotos[s].length = LG0) => (⟨fun i hi hij => by
        by_cases e : i = s
        · subst e; exact h1
        · exact HX.out.2.1 i hi (by omega), fun i hi hij => by
        by_cases e : i = s
        · subst e; exact h2
        · exact HX.out.2.2 i hi (by omega)⟩ : (∀ i (hi : i < t.acts.length), i < s + 1 → t.acts[i].length = LA0) ∧ ∀ i (hi : i < t.gotos.length), i < s + 1 → t.gotos[i].length = LG0))
      have HBX := (show Hid _ from fun n => bel_drewS HX.out.1 n)
      generalize t.acts[s].length = LA at *
      generalize t.gotos[s].length = LG at *
      clear htl hca hma' haa hcella hra hcg hmg' hag hcellg hrg e82 e83 e92 e93 eA eG eA0 eG0 HX HWA HWG HWT
      by_cases hLA : LA = LA0
      case neg =>
        have HF : Hid (R = false) := HWA2.out hLA
        have j1 : ((LA : Int) != (LA0 : Int)) = true := by simp; omega
        clear hLA HWA2 HWG2 HNA
        go_wp2_with fail
        go_quiet (fail)
        go_wp2_with fail
        go_ret
        exact ⟨by rw [HF.out]; rfl, bel_drewS HWB.out _⟩
      have j1 : ((LA : Int) != (LA0 : Int)) = false := by simp; omega
      by_cases hLG : LG = LG0
      case neg =>
        have HF : Hid (R = false) := HWG2.out hLG
        have j2 : ((LG : Int) != (LG0 : Int)) = true := by simp; omega
        clear hLG hLA HWA2 HWG2 HNA
        go_wp2_with fail
        go_quiet (fail)
        go_wp2_with fail
        go_ret
        exact ⟨by rw [HF.out]; rfl, bel_drewS HWB.out _⟩
      have j2 : ((LG : Int) != (LG0 : Int)) = false := by simp; omega
      have HN := (show Hid _ from HNA.out hLA hLG)
      clear hLA hLG HWA2 HWG2 HNA
      go_wp2_with fail
      go_quiet (fail)
      go_wp2_with fail
      exact ⟨⟨s + 1, by go_num, by omega, HBX.out _, HN.out.1, HN.out.2⟩, by simp [intOf]; omega⟩
    · have HF : Hid (R = true) := HWT.out (fun i hi => HX.out.2.1 i hi (by omega)) (fun i hi => HX.out.2.2 i hi (by have := HG3.out; omega))
      clear HX htl
      go_wp2_with fail
      go_ret
      exact ⟨by rw [HF.out]; rfl, HWB.out⟩
end Go.Proofs.Ytflhfimgeladaaa
