import Derived.Test.YtkkcdkfmlamgcaaSi
import Derived.Test.YtkkcdkfmlamgcaaUl
import Derived.Test.YtkkcdkfmlamgcaaDraw3
import Derived.Test.YtkkcdkfmlamgcaaSame
/-! FnShared: what is drawn, and what a tree shares with itself. Plain mathematics. -/
namespace Go.Proofs.Ytkkcdkfmlamgcaa
open Go.RowKit Go.Deep Go.Lib
set_option linter.unusedVariables false
set_option maxRecDepth 100000
set_option linter.unusedSimpArgs false

theorem vlN_f {f g : Nat → Nat} {ns : List Nd} : ∀ j, (∀ i, i < j → f i = g i) → vlN f ns j = vlN g ns j
  | 0, _ => rfl
  | j + 1, h => by rw [vlN, vlN, vlN_f j (fun i hi => h i (by omega)), h j (by omega)]
/-- A right tree shares all of itself with itself. -/
theorem swN_self {t : Tr} (h : t.ok = true) : swN t t = t.cnt ∧ swC t t = 0 := by
  have hk : okB t t = true := by unfold okB; rw [h]; rfl
  have hd := (putT_keep t [] (by simp)).2.1
  have hT := isT_put t []
  have hst := isT_stay t hd hT
  have hg := putT_gd t [] (by simp) gd_nil
  have hlt := isT_lt' hT
  refine ⟨?_, by unfold swC; rw [hk]; rfl⟩
  unfold swN
  rw [hk, if_pos rfl]
  have e1 : n2 t t = (putT t []).1 := by unfold n2; rw [hst]
  have e2 : q2 t t = (putT t []).2 := by unfold q2; rw [hst]
  rw [e1, e2, ← vv_cnt t hg hT]
  unfold vv
  rw [vlN_f (f := kf (m2 t)) (g := fun _ => 1) _ (fun i hi => by unfold kf m2; rw [if_pos (by omega)])]
/-- No node stands twice. -/
theorem putTs_nodup (T : List Tr) : (putTs T []).1.Nodup := (putTs_keep T (ns := []) (by simp)).2.1
theorem nodes_differ {T : List Tr} {i k : Nat} (hk : k < i) (hi : i < (putTs T []).1.length) : ¬ ((putTs T []).1[i].nm = (putTs T []).1[k].nm ∧ (putTs T []).1[i].tx = (putTs T []).1[k].tx ∧ (putTs T []).1[i].lf = (putTs T []).1[k].lf ∧ (putTs T []).1[i].ks = (putTs T []).1[k].ks) := by
  intro h
  have h3 := List.pairwise_iff_getElem.1 (putTs_nodup T) k i (by omega) hi hk
  apply h3
  obtain ⟨e1, e2, e3, e4⟩ := h
  generalize (putTs T []).1[i] = a at *
  generalize (putTs T []).1[k] = b at *
  obtain ⟨a1, a2, a3, a4⟩ := a
  obtain ⟨b1, b2, b3, b4⟩ := b
  dsimp only at e1 e2 e3 e4
  rw [e1, e2, e3, e4]
/-- What Unshare answers for what Share keeps. -/
theorem unR_share {T T' : List Tr} {c : Int} (h : tksB T = true) (hR : UnR ((putTs T []).1.map rd) (ins (putTs T []).2) (T', c)) : T' = T ∧ c = 0 := by
  have hok : UnOK ((putTs T []).1.map rd) (ins (putTs T []).2) T := ⟨h, rfl, rfl⟩
  have := UnR.uniq hR (show UnR _ _ (T, 0) from .inl ⟨hok, rfl⟩)
  simp only [Prod.mk.injEq] at this
  exact this
/-- (Add t u) -/
def addT (t u : Tr) : Tr := ⟨⟨#[65, 100, 100]⟩, ByteArray.empty, false, [t, u]⟩
def cOne (cs : List UInt8) (k : List Tr) (s : Nat × Nat) : List Tr × (Nat × Nat) :=
  if (cPick cs 2 (cTree cs 3 s).2).1 = 0 then ((k ++ [(cTree cs 3 s).1]) ++ [addT (cTree cs 3 s).1 (cTree cs 1 (cPick cs 2 (cTree cs 3 s).2).2).1], (cTree cs 1 (cPick cs 2 (cTree cs 3 s).2).2).2)
  else (k ++ [(cTree cs 3 s).1], (cPick cs 2 (cTree cs 3 s).2).2)
def cMany (cs : List UInt8) : Nat → List Tr × (Nat × Nat) → List Tr × (Nat × Nat)
  | 0, x => x
  | i + 1, x => cMany cs i (cOne cs x.1 x.2)
def cRow (cs : List UInt8) (s : Nat × Nat) : List Tr × (Nat × Nat) := cMany cs (cPick cs 4 s).1 ([], (cPick cs 4 s).2)
def abT : Tr := lf ⟨#[97]⟩ ⟨#[98]⟩
def cPad (cs : List UInt8) : Nat → List Tr → Nat × Nat → List Tr
  | 0, k, _ => k
  | f + 1, k, s => if k.length < 20 + (cPick cs 2 s).1 then cPad cs f (k ++ [abT]) (cPick cs 2 s).2 else k
def cShare (cs : List UInt8) : List Tr :=
  if (cPick cs 12 (cRow cs (0, 17 + cs.length)).2).1 = 0 then (cRow cs (0, 17 + cs.length)).1 ++ [(cAny cs (cPick cs 12 (cRow cs (0, 17 + cs.length)).2).2).1]
  else if (cPick cs 12 (cRow cs (0, 17 + cs.length)).2).1 = 1 then cPad cs 22 (cRow cs (0, 17 + cs.length)).1 (cPick cs 12 (cRow cs (0, 17 + cs.length)).2).2
  else (cRow cs (0, 17 + cs.length)).1
theorem cOne_len (cs : List UInt8) (k : List Tr) (s : Nat × Nat) : (cOne cs k s).1.length ≤ k.length + 2 := by
  unfold cOne
  split <;> simp
theorem cMany_len (cs : List UInt8) : ∀ i x, (cMany cs i x).1.length ≤ x.1.length + 2 * i
  | 0, x => by simp [cMany]
  | i + 1, x => by
    rw [cMany]
    have h1 := cMany_len cs i (cOne cs x.1 x.2)
    have h2 := cOne_len cs x.1 x.2
    omega
theorem cRow_len (cs : List UInt8) (s : Nat × Nat) : (cRow cs s).1.length ≤ 6 := by
  unfold cRow
  have h1 := cMany_len cs (cPick cs 4 s).1 ([], (cPick cs 4 s).2)
  have h2 := cPick_lt cs 4 s (by omega)
  simp only [List.length_nil] at h1
  omega
end Go.Proofs.Ytkkcdkfmlamgcaa
