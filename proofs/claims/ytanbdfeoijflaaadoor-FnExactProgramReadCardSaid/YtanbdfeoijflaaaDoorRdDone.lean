import Derived.Test.YtanbdfeoijflaaaDoorRows
import Derived.Test.YtanbdfeoijflaaaDoorTie
import Derived.Test.YtanbdfeoijflaaaDoorCards
import Derived.Test.YtanbdfeoijflaaaDoorLawRd
import Derived.Lay
import Derived.ProofKit
import Derived.Stop.Joined
import Derived.OpenShut
import Derived.ShutString
import Derived.MakeChecks
import Derived.LaidHandle
import Derived.SevenTiedAt
/-! The statement of FnExactProgramRead, by the door. -/
namespace Go.Proofs.YtanbdfeoijflaaaDoor
open Go.ChangeShapes Go.WideShapes Go.ChangeAt Go.RowKit Go.Deep
set_option linter.unusedVariables false

theorem ownAtR : ownKnob Tryd.prog.godebug = none := by kernel_rfl
theorem laidOutAtR : laidOutB Tryd.prog = true := by kernel_rfl
/-- What the row lists. -/
abbrev laid7 : List (String × DataW Unit) := Rows.fnExactProgramReadRow.laid
set_option maxRecDepth 100000 in
/-- A world in which they are laid meets the condition. -/
theorem laid_met (os : Os) (args : Array Value) : laidMetH Tryd.prog laid7 ((World.laidAll Tryd.prog os laid7).forCall (fun _ _ => 0) ⟨#[], args, []⟩).memory := by
  rw [MakeChecks.laidMetH_plain _ _ _ (by kernel_rfl)]
  exact laidMet_laidAll _ (by kernel_rfl) (by kernel_rfl)
set_option maxRecDepth 100000 in
theorem rdWitness (os : Os) (H : Type) (enc : TypeId × Value → H) : ∃ (w : World) (tape : Tape) (i : Input), w.os = os ∧ (w.forCall tape i).Shaped Tryd.checked.prog ∧ i.vars = [] ∧ Input.okWide Tryd.checked.prog (w.forCall tape i) .any w.heap.size 4 i ∧
    ((Rows.fnExactProgramReadSpec.pre enc Tryd.prog Tryd.f4 [] false (w.forCall tape i).memory i.args ∧ laidMetH Tryd.prog laid7 (w.forCall tape i).memory) ∧ sizedMet enc Tryd.prog Tryd.f4 (OpenSpec.ofChange Rows.fnExactProgramReadSpec) false (w.forCall tape i).memory i.args) ∧
      Assume.holds {} Tryd.checked.prog (lone (Frame.enter Tryd.checked.prog 4 i.args .normal) [] (w.forCall tape i)) :=
  ChangeSpec.witness_shaped (enc := enc) (C := Tryd.checked) (os := os) (X := fun w _ => laidMetH Tryd.prog laid7 w) false (World.laidAll Tryd.prog os laid7) #[.string ByteArray.empty] 8 (World.laidAll_os _ _ _)
    (World.shaped_of_ZipB (by kernel_rfl) (by kernel_rfl)) (by kernel_rfl) (by kernel_rfl) (by kernel_rfl) (laid_met os _)
theorem rdMx {W : World} (h : W.ShapedOpen Tryd.prog) : MxL W := Tryd.laysCut.s1_3 W h

set_option maxRecDepth 100000 in
theorem rdLifted (os : Os) (started : os.Started) (H : Type) (enc : TypeId × Value → H) :
    ReturnsInHanded {} Tryd.checked os 4 .any (fun w args => (Rows.fnExactProgramReadSpec.pre enc Tryd.prog Tryd.f4 [] false w args ∧ laidMetH Tryd.prog laid7 w) ∧ sizedMet enc Tryd.prog Tryd.f4 (OpenSpec.ofChange Rows.fnExactProgramReadSpec) false w args)
      (Rows.fnExactProgramReadSpec.post enc Tryd.prog Tryd.f4 false true false false) := by
  refine returnsInHanded_of_calls (C := Tryd.checked) ownAtR started (by kernel_rfl) (rdWitness os H enc) ?_
  intro w0 tape inp hos hshape hvars hin hpre hassume
  obtain ⟨_, _, _, g4, hg4, _, _, _, _, hval0⟩ := hin
  obtain rfl : g4 = Tryd.f4 := Option.some.inj (hg4.symm.trans Tryd.func4)
  obtain ⟨⟨⟨ds, gs, before, hW0, hcnd⟩, hlaid⟩, hsized⟩ := hpre
  have hW := DataW.Whole.of_heap (w' := w0.forCall tape inp) (by rfl) hW0
  have hMx := rdMx hshape
  obtain ⟨iargs, hia⟩ : ∃ a, inp.args = a := ⟨_, rfl⟩
  rw [hia] at hval0 hW ⊢
  have hval : ∀ (j : Nat) t v, Tryd.f4.params[j]? = some t → iargs[j]? = some v → Value.okWide Tryd.prog (w0.forCall tape inp) .any w0.heap.size t v := hval0
  have hW' := hW
  obtain ⟨p, q, hA0, hV, rfl, hfz, hnd⟩ := hW
  have hA : DataW.TrodAll enc Tryd.prog (w0.forCall tape inp) 0 (fun _ => true) true Tryd.f4.params.toList iargs.toList ds p := hA0
  rw [Tryd.params4] at hA hval
  obtain ⟨v0, vs0, d0, ds0, p0, q0, hargs, rfl, rfl, h0, r0⟩ := trodAll_cons hA
  obtain ⟨rfl, rfl, rfl⟩ := trodAll_nil r0
  obtain rfl : iargs = #[v0] := by cases iargs; simp_all
  obtain ⟨rfl, rfl⟩ := trodVars_none hV
  have k0 := h0
  have lt0 : ∀ x ∈ p0, x.block < (w0.forCall tape inp).heap.size := by obtain ⟨m, hm⟩ := k0; exact DataW.trod_lt m _ _ _ hm
  obtain ⟨s, rfl⟩ : ∃ s : List UInt8, v0 = .string (bs s) := by
    obtain ⟨b, rfl⟩ := okWide_string Tryd.underlying9 (hval 0 9 v0 rfl rfl)
    exact ⟨b.data.toList, rfl⟩
  clear hA0 hval0
  refine (lawRd s (w0.forCall tape inp) hMx).mono fun e W' ⟨he, bel⟩ => ?_
  subst he
  exact ChangeSpec.post_blind ⟨_, _, _, [], _, [], hW', trodAll_mk1 (shut_bool Tryd.underlying4 _), (trodAll_cons_mk (Below.trod laidOutAtR (by kernel_rfl) (of_decide_eq_true (by kernel_rfl)) k0 bel lt0) trodAll_mk0), rfl, bel.frame _, fun h => by cases h⟩

theorem rdOver : Rows.FnExactProgramReadSaid :=
  OpenClaim.holds_of_wide 4 Tryd.f4 rfl rfl rfl rfl rfl rfl rfl ⟨rfl, rfl, rfl, rfl, rfl⟩ rfl rfl rfl rfl rfl (by kernel_rfl) Tryd.func4 (by kernel_rfl)
    (of_decide_eq_true (by kernel_rfl)) (by unfold Func.isWrapper; first | (rw [if_pos (by decide +kernel)]; kernel_rfl) | (rw [if_neg (by decide +kernel)]; exact ⟨rfl, rfl⟩))
    (fun os started H enc _ => rdLifted os started H enc)

/-- The tied card. -/
theorem exactProgramRead_card : Rows.FnExactProgramReadCardSaid :=
  Claim7.holds_tied_plain_at .later [] [.data, .data, .data, .data, .sentinel, .sentinel, .pinned] true (true, "ce7a4cca0c0458c4bfed3d555fd34c1a3aec5edc52d39735ed753d08c68cade7") true
    rdOver (fun _ h => by cases h) (by kernel_rfl) (fun _ h => by cases h) fnExactProgramRead_row_tie rfl ⟨rfl, rfl⟩ (by kernel_rfl) rfl
    (fun f fn hf hfn => by
      obtain rfl : f = 4 := Option.some.inj ((show Tryd.prog.funcNamed "loop.example/g00037/laws.FnExactProgramRead" = some 4 by kernel_rfl).symm.trans hf) |>.symm
      obtain rfl : fn = Tryd.f4 := (Option.some.inj (Tryd.func4.symm.trans hfn)).symm
      exact ⟨by kernel_rfl, fun j t ht => by
        rw [Tryd.params4] at ht
        have h3 : t = 9 := by
          rcases j with _ | j
          · simpa using ht.symm
          · simp at ht
        subst h3
        exact (show Tryd.prog.wantsStandIn 9 = false by kernel_rfl)⟩)
    (by kernel_rfl)
#print axioms exactProgramRead_card
end Go.Proofs.YtanbdfeoijflaaaDoor
