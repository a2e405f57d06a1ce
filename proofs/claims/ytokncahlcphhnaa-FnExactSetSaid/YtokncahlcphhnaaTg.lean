import Derived.Test.YtokncahlcphhnaaTf
/-! A layout as text: the program's pen. -/
namespace Go.Proofs.Ytokncahlcphhnaa
open Go.RowKit Go.Deep Go.Lib
set_option linter.unusedVariables false
set_option maxRecDepth 100000
set_option linter.unusedSimpArgs false

theorem Try.extraR : Builder.Extra Try.prog Try.laysRepeat_ren where
  sizeBuilder := by kernel_rfl
  liesBuilder := by kernel_rfl
  t5 := Try.laysRepeat.t5
  a5 := Try.laysRepeat.a5
  z5 := Try.laysRepeat.z5
  v5 := Try.laysRepeat.v5
  infoByte := by kernel_rfl
  cellsByte := by kernel_rfl
  sizeByte := by kernel_rfl
  neB5 := by decide
theorem Try.fRepeat : Try.laysRepeat_ren.f 105 = 105 := by kernel_rfl
/-- So many blanks. -/
theorem blanks105 (n : Nat) (w : World) (hn : n ≤ 1000000) : Calls Try.prog 105 #[.string { data := #[32] }, .int .i64 n] w fun e w' => e = .returned (.string ⟨(List.replicate n 32).toArray⟩) ∧ Below w.heap.size w w' := by
  have h := Any.strings_Repeat Try.laysRepeat Try.extraR ⟨#[32]⟩ n w (by omega) (by show 1 * n ≤ _; omega)
  rw [Try.fRepeat] at h
  refine h.mono fun e w' ⟨he, hw⟩ => ⟨?_, hw⟩
  rw [he]
  have e : Lib.repeatL (ByteArray.mk #[32]).data.toList n = List.replicate n 32 := by
    have := Lib.repeatL_replicate 32 1 n
    simpa using this
  rw [e]
theorem wpList_append_str {P : Program} (w : World) {ops : Array Oper} {rest : List Oper} {o : Oper} {a : Act} {Q : Exit → Act → World → Prop} (hgd : o.guard = none) (s x : Operand) (t u : TypeId)
    (ho : o.op = .call { callee := .builtin .append, args := #[s, x], argTypes := #[t, u] }) {v xv v' : Value} {w' : World} (hs : a.eval s = v) (hx : a.eval x = xv) (hr : (Builtin.append_ #[t, u] o.type #[v, xv]).run P w = .ok v' w')
    (h : wpList P ops Q rest (a.put o.dst v') w') : wpList P ops Q (o :: rest) a w :=
  wpList_plain hgd fun _ hK => by
    unfold Oper.wp execOp
    simp only [ho, resolve, invoke, builtin, Sem.run_bind, Sem.run_pure, Result.andThen_ok, List.map_toArray, List.map_cons, List.map_nil, hs, hx, hr]
    exact hK _ _ h
set_option maxHeartbeats 1600000 in
theorem put104 (p : Nat) (s : ByteArray) (xs : List UInt8) (g : Option Nat) (a : Option Addr) (c : Nat) (w : World) (h : St w p 74 [] xs g a c) (hl : xs.length + s.size ≤ 1000000000) :
    Calls Try.prog 104 #[.pointer (some ⟨p, 0, none⟩), .string s] w (Wr p 74 [] xs s.data.toList g w) := by
  have q0 : w.cell? ⟨p, 0, none⟩ = some (.slice a xs.length c) := h.cell.1
  obtain ⟨v', U, hr, hown, hgr, hat⟩ := append_str h.own s 69 (by omega) (by have := h.lt.1; omega)
  obtain ⟨a2, c2, hv⟩ : ∃ a2 c2, v' = .slice a2 (xs.length + s.size) c2 := by
    rcases hown.2 with ⟨e1, e2⟩ | ⟨g, cap, _, e1, _⟩
    · exact ⟨none, 0, by rw [e1, e2]⟩
    · exact ⟨_, _, e1⟩
  subst hv
  obtain ⟨⟨z2, z3⟩, g', hst, hmv⟩ := h.app (ys := s.data.toList) rfl (Below.refl _ _) hgr rfl hown hat
  have HS := (show Hid (_ ∧ _) from ⟨hst, hmv⟩)
  have z2' : U.cell? ⟨p, 0, none⟩ = some (.slice a xs.length c) := z2
  have z3' : U.frozen? ⟨p, 0, none⟩ = false := z3
  clear h hst hmv hown hgr hat z2 z3 hl
  have HR := (show Hid _ from hr); clear hr
  go_enter Try.func104, Try.ntmps104
  go_wp2_with (at_builtin; refine wpList_append_str _ rfl (.tmp 8) (.tmp 9) 69 9 rfl rfl rfl HR.out ?_)
  refine bodyPost_end (v := .tuple #[]) (by simp [results, Try.results104]) rfl ?_
  exact ⟨rfl, _, _, _, HS.out⟩
set_option maxHeartbeats 1600000 in
theorem feed103 (p ind : Nat) (xs : List UInt8) (g : Option Nat) (a : Option Addr) (c : Nat) (w : World) (h : St w p 74 [] xs g a c) (hind : ind ≤ 100000) (hl : xs.length + ind ≤ 900000000) :
    Calls Try.prog 103 #[.pointer (some ⟨p, 0, none⟩), .int .i64 ind] w (Wr p 74 [] xs (fdT ind) g w) := by
  have HP := (show Hid _ from put104 p { data := #[10] } xs g a c w h (by show xs.length + 1 ≤ _; omega))
  clear h
  go_enter Try.func103, Try.ntmps103
  go_wp2_with fail
  refine Calls.mono HP.out ?_
  rintro e w1 ⟨rfl, g1, a1, c1, hst, hmv⟩
  have HS1 := (show Hid (St w1 p 74 [] (xs ++ [10]) g1 a1 c1 ∧ Mv p g w g1 w1) from ⟨hst, hmv⟩)
  clear hst hmv HP
  have HR := (show Hid _ from blanks105 ind w1 (by omega))
  go_wp2_with fail
  refine Calls.mono HR.out ?_
  rintro e w2 ⟨rfl, hb2⟩
  have HS2 := (show Hid (St w2 p 74 [] (xs ++ [10]) g1 a1 c1 ∧ Mv p g w g1 w2) from ⟨HS1.out.1.still hb2, HS1.out.2.trans (Mv.bel hb2)⟩)
  clear hb2 HS1 HR
  have HP2 := (show Hid _ from put104 p ⟨(List.replicate ind 32).toArray⟩ _ g1 a1 c1 w2 HS2.out.1 (by
    have e1 : (ByteArray.mk (List.replicate ind (32 : UInt8)).toArray).size = ind := by show (List.replicate ind (32 : UInt8)).toArray.size = ind; simp
    rw [e1, List.length_append]; simp; omega))
  go_wp2_with fail
  refine Calls.mono HP2.out ?_
  rintro e w3 ⟨rfl, g3, a3, c3, hst, hmv⟩
  have HS3 := (show Hid (St w3 p 74 [] (xs ++ fdT ind) g3 a3 c3 ∧ Mv p g w g3 w3) from ⟨by
    have e2 : xs ++ fdT ind = xs ++ [10] ++ (List.replicate ind 32).toArray.toList := by unfold fdT; simp
    rw [e2]; exact hst, HS2.out.2.trans hmv⟩)
  clear hst hmv HP2 HS2
  go_wp2_with fail
  refine bodyPost_end (v := .tuple #[]) (by simp [results, Try.results103]) rfl ?_
  exact ⟨rfl, _, _, _, HS3.out⟩
end Go.Proofs.Ytokncahlcphhnaa
