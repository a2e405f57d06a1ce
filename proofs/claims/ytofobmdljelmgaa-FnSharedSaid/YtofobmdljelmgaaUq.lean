import Derived.Test.YtofobmdljelmgaaRu
import Derived.Test.YtofobmdljelmgaaPv
/-! What Unshare answers: plain mathematics. -/
namespace Go.Proofs.Ytofobmdljelmgaa
set_option linter.unusedVariables false
set_option maxRecDepth 100000
set_option linter.unusedSimpArgs false

/-- A node as it would be given. -/
def rd (n : Nd) : Rd := ⟨n.nm, n.tx, n.lf, ins n.ks⟩
/-- The tree is the one that number z stands for. -/
def isR : Tr → List Rd → Int → Prop := Tr.fold fun n x l fs => fun ns z => ∃ qs : List Int, 0 ≤ z ∧ ns[z.toNat]? = some ⟨n, x, l, qs⟩ ∧ qs.length = fs.length ∧ ∀ i (h1 : i < fs.length) (h2 : i < qs.length), fs[i] ns qs[i]
theorem isR_mk (n x : ByteArray) (l : Bool) (k : List Tr) (ns : List Rd) (z : Int) : isR ⟨n, x, l, k⟩ ns z ↔ ∃ qs : List Int, 0 ≤ z ∧ ns[z.toNat]? = some ⟨n, x, l, qs⟩ ∧ qs.length = k.length ∧ ∀ i (h1 : i < k.length) (h2 : i < qs.length), isR k[i] ns qs[i] := by
  unfold isR
  rw [Tr.fold_mk]
  constructor
  · rintro ⟨qs, h0, h1, h2, h3⟩
    refine ⟨qs, h0, h1, by simpa using h2, fun i g1 g2 => ?_⟩
    have := h3 i (by simpa using g1) g2
    simpa using this
  · rintro ⟨qs, h0, h1, h2, h3⟩
    refine ⟨qs, h0, h1, by simpa using h2, fun i g1 g2 => ?_⟩
    have := h3 i (by simpa using g1) g2
    simpa using this
theorem isR_uniq (t : Tr) : ∀ {ns : List Rd} {z : Int} {t' : Tr}, isR t ns z → isR t' ns z → t = t' := by
  refine Tr.ind (P := fun t => ∀ {ns : List Rd} {z : Int} {t' : Tr}, isR t ns z → isR t' ns z → t = t') ?_ t
  intro n x l k ih ns z t' h h'
  obtain ⟨n', x', l', k'⟩ := t'
  rw [isR_mk] at h h'
  obtain ⟨qs, h0, h1, h2, h3⟩ := h
  obtain ⟨qs', g0, g1, g2, g3⟩ := h'
  rw [h1] at g1
  simp only [Option.some.injEq, Rd.mk.injEq] at g1
  obtain ⟨rfl, rfl, rfl, rfl⟩ := g1
  have hk : k = k' := List.ext_getElem (by omega) (fun i a1 a2 => ih i a1 (h3 i a1 (by omega)) (g3 i a2 (by omega)))
  rw [hk]
theorem isT_isR (t : Tr) : ∀ {ns : List Nd} {q : Nat}, isT t ns q → isR t (ns.map rd) q := by
  refine Tr.ind (P := fun t => ∀ {ns : List Nd} {q : Nat}, isT t ns q → isR t (ns.map rd) q) ?_ t
  intro n x l k ih ns q h
  rw [isT_mk] at h
  rw [isR_mk]
  obtain ⟨qs, h1, h2, h3⟩ := h
  refine ⟨ins qs, by omega, ?_, by rw [ins_len]; exact h2, fun i g1 g2 => ?_⟩
  · rw [Int.toNat_natCast, List.getElem?_map, h1]
    rfl
  · have e : (ins qs)[i] = ((qs[i]'(by rw [ins_len] at g2; exact g2) : Nat) : Int) := by simp [ins]
    rw [e]
    exact ih i g1 (h3 i g1 (by rw [ins_len] at g2; exact g2))
/-- Kids are numbers of lesser nodes. -/
def rgd (ns : List Rd) : Prop := ∀ (q : Nat) n, ns[q]? = some n → ∀ c ∈ n.ks, 0 ≤ c ∧ c < (q : Int)
theorem isR_ex {ns : List Rd} (h : rgd ns) : ∀ q, q < ns.length → ∃ t, isR t ns (q : Nat) := by
  intro q
  induction q using Nat.strongRecOn with
  | ind q ih =>
    intro hq
    have hn := List.getElem?_eq_getElem hq
    have hall : ∀ i, i < ns[q].ks.length → ∃ t : Tr, ∀ (hi : i < ns[q].ks.length), isR t ns ns[q].ks[i] := fun i hi => by
      obtain ⟨g1, g2⟩ := h q _ hn ns[q].ks[i] (List.getElem_mem hi)
      obtain ⟨t, ht⟩ := ih ns[q].ks[i].toNat (by omega) (by omega)
      rw [Int.toNat_of_nonneg g1] at ht
      exact ⟨t, fun _ => ht⟩
    obtain ⟨F, hF⟩ := @Go.Deep.choose_lt Tr ⟨⟨ByteArray.empty, ByteArray.empty, false, []⟩⟩ ns[q].ks.length _ hall
    refine ⟨⟨ns[q].nm, ns[q].tx, ns[q].lf, (List.range ns[q].ks.length).map F⟩, ?_⟩
    rw [isR_mk]
    refine ⟨ns[q].ks, by omega, by rw [Int.toNat_natCast]; exact hn, by simp, fun i g1 g2 => ?_⟩
    simp only [List.getElem_map, List.getElem_range]
    exact hF i g2 g2
/-- Unshare gives T back. -/
def UnOK (ns : List Rd) (rs : List Int) (T : List Tr) : Prop := tksB T = true ∧ (putTs T []).1.map rd = ns ∧ ins (putTs T []).2 = rs
theorem putTs_isT : ∀ (T : List Tr) (ns : List Nd) (i : Nat) (hi : i < T.length) (h2 : i < (putTs T ns).2.length), isT T[i] (putTs T ns).1 (putTs T ns).2[i]
  | [], ns, i, hi, _ => absurd hi (Nat.not_lt_zero _)
  | t :: r, ns, 0, hi, h2 => isT_mono _ (putK_pre r (putT t ns).1 (fun i hi ms => putT_pre _ ms)) (isT_put t ns)
  | t :: r, ns, i + 1, hi, h2 => putTs_isT r (putT t ns).1 i (by simpa using hi) (by simpa [putTs, putK] using h2)
theorem putTs_gd (T : List Tr) : gdN (putTs T []).1 := putK_gd T [] (fun i hi ns => putT_gd _ ns) (by simp) (fun q n h => by simp at h)
theorem putTs_num (T : List Tr) : (putTs T []).2.length = T.length := by
  rw [← pk_putTs]
  exact pk_num T _ (Nat.le_refl _) []
theorem UnOK.rgd {ns : List Rd} {rs : List Int} {T : List Tr} (h : UnOK ns rs T) : rgd ns := by
  obtain ⟨_, h2, _⟩ := h
  subst h2
  intro q n hn c hc
  rw [List.getElem?_map] at hn
  obtain ⟨m, hm, rfl⟩ := Option.map_eq_some_iff.1 hn
  have hc' : c ∈ ins m.ks := hc
  unfold ins at hc'
  obtain ⟨d, hd, rfl⟩ := List.mem_map.1 hc'
  have := putTs_gd T q m hm d hd
  omega
theorem isT_lt' {t : Tr} {ns : List Nd} {q : Nat} (h : isT t ns q) : q < ns.length := by
  obtain ⟨n, x, l, k⟩ := t
  rw [isT_mk] at h
  obtain ⟨qs, h1, _⟩ := h
  exact (List.getElem?_eq_some_iff.1 h1).1
theorem UnOK.root {ns : List Rd} {rs : List Int} {T : List Tr} (h : UnOK ns rs T) : rs.length = T.length ∧ T.length ≤ 20 ∧ ∀ i (h1 : i < rs.length) (h2 : i < T.length), isR T[i] ns rs[i] ∧ T[i].ok = true ∧ 0 ≤ rs[i] ∧ rs[i] < (ns.length : Int) := by
  obtain ⟨ht, h2, h3⟩ := h
  subst h2 h3
  unfold tksB at ht
  rw [Bool.and_eq_true, decide_eq_true_eq, List.all_eq_true] at ht
  refine ⟨by rw [ins_len, putTs_num], ht.1, fun i g1 g2 => ?_⟩
  have hl : i < (putTs T []).2.length := by rw [ins_len] at g1; exact g1
  have e : (ins (putTs T []).2)[i] = (((putTs T []).2[i] : Nat) : Int) := by simp [ins]
  have hT := putTs_isT T [] i g2 hl
  have hlt := isT_lt' hT
  rw [e]
  refine ⟨isT_isR _ hT, ht.2 _ (List.getElem_mem g2), by omega, by rw [List.length_map]; omega⟩
theorem UnOK.uniq {ns : List Rd} {rs : List Int} {T T' : List Tr} (h : UnOK ns rs T) (h' : UnOK ns rs T') : T = T' := by
  obtain ⟨a1, a2, a3⟩ := h.root
  obtain ⟨b1, b2, b3⟩ := h'.root
  exact List.ext_getElem (by omega) (fun i g1 g2 => isR_uniq _ (a3 i (by omega) g1).1 (b3 i (by omega) g2).1)
/-- What is answered. -/
def UnR (ns : List Rd) (rs : List Int) (R : List Tr × Int) : Prop := (UnOK ns rs R.1 ∧ R.2 = 0) ∨ ((∀ T, ¬ UnOK ns rs T) ∧ R = ([], 10))
theorem UnR.uniq {ns : List Rd} {rs : List Int} {R R' : List Tr × Int} (h : UnR ns rs R) (h' : UnR ns rs R') : R = R' := by
  obtain ⟨T, c⟩ := R
  obtain ⟨T', c'⟩ := R'
  rcases h with ⟨h1, h2⟩ | ⟨h1, h2⟩
  · rcases h' with ⟨g1, g2⟩ | ⟨g1, g2⟩
    · have e := h1.uniq g1
      dsimp only at e h2 g2
      rw [e, h2, g2]
    · exact absurd h1 (g1 _)
  · rcases h' with ⟨g1, g2⟩ | ⟨g1, g2⟩
    · exact absurd g1 (h1 _)
    · rw [h2, g2]
end Go.Proofs.Ytofobmdljelmgaa
