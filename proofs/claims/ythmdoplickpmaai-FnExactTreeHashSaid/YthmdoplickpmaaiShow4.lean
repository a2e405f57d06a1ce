import Derived.Test.YthmdoplickpmaaiShow3
namespace Go.Proofs.Ythmdoplickpmaai
open Go.RowKit Go.Deep Go.Lib
set_option linter.unusedVariables false
set_option maxRecDepth 100000
set_option linter.unusedSimpArgs false

theorem own_slice3 {w : World} {base : Nat} {e : TypeId} {size : Nat} {v : Value} {n : Nat} {xs : List Value} (h : w.ownsRow base e size v n xs) : ∃ a m c, v = .slice a m c := by
  obtain ⟨a, c, h⟩ := own_slice h
  exact ⟨a, _, c, h⟩

set_option maxHeartbeats 1600000 in
theorem quote_any (s : ByteArray) (hs : s.size ≤ 1048576) (w : World) :
    Calls Try.prog 48 #[.string s] w fun e w' => e = .returned (.string (bs (quo s.data.toList))) ∧ Below w.heap.size w w' := by
  obtain ⟨i5, hi5, hz0, hz1, hz2⟩ := info_parts info5
  have hsl : s.data.toList.length = s.size := rfl
  go_enter Try.func48, Try.ntmps48
  go_wp2_with fail
  go_loopw [3, 4] (fun o i wr => ∃ j : Nat, j ≤ s.size ∧ i = .int .i64 j ∧ (∃ a m c, o = .slice a m c) ∧ Hid (wr.ownsRow w.heap.size 5 1 o (34 :: (s.data.toList.take j).flatMap shB).length (bc (34 :: (s.data.toList.take j).flatMap shB))) ∧ Below w.heap.size w wr) (fun _ i _ => s.size - (intOf i).toNat)
  case atStart =>
    refine ⟨0, Nat.zero_le _, rfl, ⟨_, _, _, rfl⟩, ?_, bel_alloc _ _⟩
    have h := World.ownsRow_lit (base := w.heap.size) (e := 5) (size := 1) w #[.int .u8 34] 1 (Nat.le_refl _) (by unfold maxLen; omega) rfl
    have e0 : (34 : UInt8) :: (s.data.toList.take 0).flatMap shB = [34] := by simp
    rw [e0]
    exact h
  case round =>
    obtain ⟨j, hj, rfl, ⟨a3, m3, c3, rfl⟩, HS, hbw⟩ := hrel
    have hfl := flat_len (s.data.toList.take j)
    have htl : (s.data.toList.take j).length ≤ j := List.length_take_le _ _
    have hLl : ((34 : UInt8) :: (s.data.toList.take j).flatMap shB).length ≤ 1 + 4 * j := by rw [List.length_cons]; omega
    by_cases hlt : j < s.size
    · have hft := flat_take s.data.toList j (by rw [hsl]; exact hlt)
      have hxj : s.data.toList[j]'(by rw [hsl]; exact hlt) = s[j] := rfl
      rw [hxj] at hft
      have eL : (34 :: (s.data.toList.take j).flatMap shB) ++ shB s[j] = 34 :: (s.data.toList.take (j + 1)).flatMap shB := by rw [hft]; simp
      have HO := fun o => (show Hid _ from World.ownsRow.alloc HS.out o)
      clear hft hxj hfl
      generalize hL : ((34 : UInt8) :: (s.data.toList.take j).flatMap shB) = L at *
      have HLS := (show Hid _ from eL); clear eL hL
      have hc256 : s[j].toNat < 256 := s[j].toNat_lt
      by_cases h1 : s[j].toNat = 34 ∨ s[j].toNat = 92
      · have hl := shB_quote h1
        have HL := (show Hid _ from hl); clear hl
        by_cases h2 : s[j].toNat = 34
        · have e1 : ((s[j].toNat : Int) == 34) = true := by rw [beq_iff_eq]; omega
          clear h1 h2
          go_wp2_with (at_builtin; refine wpList_append_own _ rfl (.tmp 36) (.tmp 38) 65 rfl w.heap.size 5 i5 (.int .u8 0) 1 1 Try.underlying65 hi5 hz0 hz1 hz2 rfl (by decide) _ _ _ rfl (HO _).out ⟨wr.heap.size, 0, none⟩ 2 2 [.int .u8 92, .int .u8 s[j].toNat] rfl rfl (cells_box _ _ _) (by intro u hu; simp at hu; first | (rcases hu with rfl | rfl | rfl | rfl <;> rfl) | (rcases hu with rfl | rfl <;> rfl) | (subst hu; rfl)) ?c1 ?c2 ?c3 ?nx)
          case c1 => unfold maxLen; omega
          case c2 => omega
          case c3 => have := hbw.size; first | omega | (simp; omega)
          case nx =>
            intro v' w' hown' hgr _
            obtain ⟨a1, m1, c1, rfl⟩ := own_slice3 hown'
            have hb' : Below w.heap.size w w' := (hbw.trans ((bel_alloc wr _).mono hbw.size)).grown hgr (by have := hbw.size; simp; omega) (fun k hk => (World.ownsRow.lt (HO (.cells #[] 5)).out k hk).1)
            have hown2 : w'.ownsRow w.heap.size 5 1 (.slice a1 m1 c1) (34 :: (s.data.toList.take (j + 1)).flatMap shB).length (bc (34 :: (s.data.toList.take (j + 1)).flatMap shB)) := by
              rw [← HLS.out, bc_append, List.length_append, HL.out]
              first | (rw [bc_num]; exact hown') | (rw [bc_two]; exact hown') | (rw [bc_self]; exact hown')
            have HO2 := (show Hid _ from hown2); clear hown2 hown' hgr
            go_wp2_with fail
            exact ⟨⟨j + 1, by omega, by go_num, ⟨a1, m1, c1, rfl⟩, HO2, hb'⟩, by simp [intOf]; omega⟩
        · have e1 : ((s[j].toNat : Int) == 34) = false := by rw [beq_eq_false_iff_ne]; omega
          have e2 : ((s[j].toNat : Int) == 92) = true := by rw [beq_iff_eq]; omega
          clear h1 h2
          go_wp2_with (at_builtin; refine wpList_append_own _ rfl (.tmp 36) (.tmp 38) 65 rfl w.heap.size 5 i5 (.int .u8 0) 1 1 Try.underlying65 hi5 hz0 hz1 hz2 rfl (by decide) _ _ _ rfl (HO _).out ⟨wr.heap.size, 0, none⟩ 2 2 [.int .u8 92, .int .u8 s[j].toNat] rfl rfl (cells_box _ _ _) (by intro u hu; simp at hu; first | (rcases hu with rfl | rfl | rfl | rfl <;> rfl) | (rcases hu with rfl | rfl <;> rfl) | (subst hu; rfl)) ?c1 ?c2 ?c3 ?nx)
          case c1 => unfold maxLen; omega
          case c2 => omega
          case c3 => have := hbw.size; first | omega | (simp; omega)
          case nx =>
            intro v' w' hown' hgr _
            obtain ⟨a1, m1, c1, rfl⟩ := own_slice3 hown'
            have hb' : Below w.heap.size w w' := (hbw.trans ((bel_alloc wr _).mono hbw.size)).grown hgr (by have := hbw.size; simp; omega) (fun k hk => (World.ownsRow.lt (HO (.cells #[] 5)).out k hk).1)
            have hown2 : w'.ownsRow w.heap.size 5 1 (.slice a1 m1 c1) (34 :: (s.data.toList.take (j + 1)).flatMap shB).length (bc (34 :: (s.data.toList.take (j + 1)).flatMap shB)) := by
              rw [← HLS.out, bc_append, List.length_append, HL.out]
              first | (rw [bc_num]; exact hown') | (rw [bc_two]; exact hown') | (rw [bc_self]; exact hown')
            have HO2 := (show Hid _ from hown2); clear hown2 hown' hgr
            go_wp2_with fail
            exact ⟨⟨j + 1, by omega, by go_num, ⟨a1, m1, c1, rfl⟩, HO2, hb'⟩, by simp [intOf]; omega⟩
      · have e1 : ((s[j].toNat : Int) == 34) = false := by rw [beq_eq_false_iff_ne]; omega
        have e2 : ((s[j].toNat : Int) == 92) = false := by rw [beq_eq_false_iff_ne]; omega
        by_cases h2 : s[j].toNat < 32 ∨ 126 < s[j].toNat
        · have hl := shB_num h1 h2
          have HL := (show Hid _ from hl); clear hl h1
          by_cases h3 : s[j].toNat < 32
          · clear h2
            go_wp2_with (at_builtin; refine wpList_append_own _ rfl (.tmp 16) (.tmp 27) 65 rfl w.heap.size 5 i5 (.int .u8 0) 1 1 Try.underlying65 hi5 hz0 hz1 hz2 rfl (by decide) _ _ _ rfl (HO _).out ⟨wr.heap.size, 0, none⟩ 4 4 [.int .u8 92, .int .u8 (48 + (s[j].toNat : Int) / 100), .int .u8 (48 + (s[j].toNat : Int) / 10 % 10), .int .u8 (48 + (s[j].toNat : Int) % 10)] rfl rfl (cells_box _ _ _) (by intro u hu; simp at hu; first | (rcases hu with rfl | rfl | rfl | rfl <;> rfl) | (rcases hu with rfl | rfl <;> rfl) | (subst hu; rfl)) ?c1 ?c2 ?c3 ?nx)
            case c1 => unfold maxLen; omega
            case c2 => omega
            case c3 => have := hbw.size; first | omega | (simp; omega)
            case nx =>
              intro v' w' hown' hgr _
              obtain ⟨a1, m1, c1, rfl⟩ := own_slice3 hown'
              have hb' : Below w.heap.size w w' := (hbw.trans ((bel_alloc wr _).mono hbw.size)).grown hgr (by have := hbw.size; simp; omega) (fun k hk => (World.ownsRow.lt (HO (.cells #[] 5)).out k hk).1)
              have hown2 : w'.ownsRow w.heap.size 5 1 (.slice a1 m1 c1) (34 :: (s.data.toList.take (j + 1)).flatMap shB).length (bc (34 :: (s.data.toList.take (j + 1)).flatMap shB)) := by
                rw [← HLS.out, bc_append, List.length_append, HL.out]
                first | (rw [bc_num]; exact hown') | (rw [bc_two]; exact hown') | (rw [bc_self]; exact hown')
              have HO2 := (show Hid _ from hown2); clear hown2 hown' hgr
              go_wp2_with fail
              exact ⟨⟨j + 1, by omega, by go_num, ⟨a1, m1, c1, rfl⟩, HO2, hb'⟩, by simp [intOf]; omega⟩
          · have h4 : 126 < s[j].toNat := by omega
            clear h2
            go_wp2_with (at_builtin; refine wpList_append_own _ rfl (.tmp 16) (.tmp 27) 65 rfl w.heap.size 5 i5 (.int .u8 0) 1 1 Try.underlying65 hi5 hz0 hz1 hz2 rfl (by decide) _ _ _ rfl (HO _).out ⟨wr.heap.size, 0, none⟩ 4 4 [.int .u8 92, .int .u8 (48 + (s[j].toNat : Int) / 100), .int .u8 (48 + (s[j].toNat : Int) / 10 % 10), .int .u8 (48 + (s[j].toNat : Int) % 10)] rfl rfl (cells_box _ _ _) (by intro u hu; simp at hu; first | (rcases hu with rfl | rfl | rfl | rfl <;> rfl) | (rcases hu with rfl | rfl <;> rfl) | (subst hu; rfl)) ?c1 ?c2 ?c3 ?nx)
            case c1 => unfold maxLen; omega
            case c2 => omega
            case c3 => have := hbw.size; first | omega | (simp; omega)
            case nx =>
              intro v' w' hown' hgr _
              obtain ⟨a1, m1, c1, rfl⟩ := own_slice3 hown'
              have hb' : Below w.heap.size w w' := (hbw.trans ((bel_alloc wr _).mono hbw.size)).grown hgr (by have := hbw.size; simp; omega) (fun k hk => (World.ownsRow.lt (HO (.cells #[] 5)).out k hk).1)
              have hown2 : w'.ownsRow w.heap.size 5 1 (.slice a1 m1 c1) (34 :: (s.data.toList.take (j + 1)).flatMap shB).length (bc (34 :: (s.data.toList.take (j + 1)).flatMap shB)) := by
                rw [← HLS.out, bc_append, List.length_append, HL.out]
                first | (rw [bc_num]; exact hown') | (rw [bc_two]; exact hown') | (rw [bc_self]; exact hown')
              have HO2 := (show Hid _ from hown2); clear hown2 hown' hgr
              go_wp2_with fail
              exact ⟨⟨j + 1, by omega, by go_num, ⟨a1, m1, c1, rfl⟩, HO2, hb'⟩, by simp [intOf]; omega⟩
        · have hl := shB_self h1 h2
          have HL := (show Hid _ from hl); clear hl h1
          have h3 : ¬ s[j].toNat < 32 := by omega
          have h4 : ¬ 126 < s[j].toNat := by omega
          clear h2
          go_wp2_with (at_builtin; refine wpList_append_own _ rfl (.tmp 47) (.tmp 49) 65 rfl w.heap.size 5 i5 (.int .u8 0) 1 1 Try.underlying65 hi5 hz0 hz1 hz2 rfl (by decide) _ _ _ rfl (HO _).out ⟨wr.heap.size, 0, none⟩ 1 1 [.int .u8 s[j].toNat] rfl rfl (cells_box _ _ _) (by intro u hu; simp at hu; first | (rcases hu with rfl | rfl | rfl | rfl <;> rfl) | (rcases hu with rfl | rfl <;> rfl) | (subst hu; rfl)) ?c1 ?c2 ?c3 ?nx)
          case c1 => unfold maxLen; omega
          case c2 => omega
          case c3 => have := hbw.size; first | omega | (simp; omega)
          case nx =>
            intro v' w' hown' hgr _
            obtain ⟨a1, m1, c1, rfl⟩ := own_slice3 hown'
            have hb' : Below w.heap.size w w' := (hbw.trans ((bel_alloc wr _).mono hbw.size)).grown hgr (by have := hbw.size; simp; omega) (fun k hk => (World.ownsRow.lt (HO (.cells #[] 5)).out k hk).1)
            have hown2 : w'.ownsRow w.heap.size 5 1 (.slice a1 m1 c1) (34 :: (s.data.toList.take (j + 1)).flatMap shB).length (bc (34 :: (s.data.toList.take (j + 1)).flatMap shB)) := by
              rw [← HLS.out, bc_append, List.length_append, HL.out]
              first | (rw [bc_num]; exact hown') | (rw [bc_two]; exact hown') | (rw [bc_self]; exact hown')
            have HO2 := (show Hid _ from hown2); clear hown2 hown' hgr
            go_wp2_with fail
            exact ⟨⟨j + 1, by omega, by go_num, ⟨a1, m1, c1, rfl⟩, HO2, hb'⟩, by simp [intOf]; omega⟩
    · have hje : j = s.size := by omega
      have eL : (34 : UInt8) :: (s.data.toList.take j).flatMap shB = 34 :: s.data.toList.flatMap shB := by rw [List.take_of_length_le (by omega)]
      have hq : quo s.data.toList = (34 :: s.data.toList.flatMap shB) ++ [34] := by unfold quo; simp
      have hst4 := HS.out
      rw [eL] at hst4 hLl
      have HQ := (show Hid _ from hq); clear hq eL hfl
      have HO := fun o => (show Hid _ from World.ownsRow.alloc hst4 o)
      clear hst4 HS
      generalize hL : ((34 : UInt8) :: s.data.toList.flatMap shB) = L at *
      clear hL
      go_wp2_with (at_builtin; refine wpList_append_own _ rfl (.tmp 51) (.tmp 52) 65 rfl w.heap.size 5 i5 (.int .u8 0) 1 1 Try.underlying65 hi5 hz0 hz1 hz2 rfl (by decide) _ _ _ rfl (HO _).out ⟨wr.heap.size, 0, none⟩ 1 1 [.int .u8 34] rfl rfl (cells_box _ _ _) (by intro u hu; simp at hu; subst hu; rfl) ?f1 ?f2 ?f3 ?nx)
      case f1 => unfold maxLen; omega
      case f2 => omega
      case f3 => have := hbw.size; first | omega | (simp; omega)
      case nx =>
        intro v' w' hown' hgr _
        have hb' : Below w.heap.size w w' := (hbw.trans ((bel_alloc wr _).mono hbw.size)).grown hgr (by have := hbw.size; simp; omega) (fun k hk => (World.ownsRow.lt (HO (.cells #[] 5)).out k hk).1)
        have hown2 : w'.ownsRow w.heap.size 5 1 v' (L ++ [34]).length (bc (L ++ [34])) := by
          rw [bc_append, List.length_append]; exact hown'
        have hcv := conv_own hown2
        obtain ⟨a1, m1, c1, rfl⟩ := own_slice3 hown'
        clear hown2 hown' hgr
        rw [← HQ.out] at hcv
        go_wp2_with fail
        go_ret
        exact ⟨rfl, hb'⟩

theorem ret_si {a b : List UInt8} {x y : Int} (h : a = b) (h' : x = y) : Ending.returned (.tuple #[.string (bs a), .int .i64 x]) = .returned (.tuple #[.string (bs b), .int .i64 y]) := by rw [h, h']

/-- What TreeShow answers for a right tree. -/
def shTxt (t : Tr) : List UInt8 := if 20000 < t.sh.length then [] else t.sh
def shCode (t : Tr) : Int := if 20000 < t.sh.length then 3 else 0
theorem shTxt_no {t : Tr} (h : 20000 < t.sh.length) : shTxt t = [] ∧ shCode t = 3 := ⟨if_pos h, if_pos h⟩
theorem shTxt_yes {t : Tr} (h : ¬ 20000 < t.sh.length) : shTxt t = t.sh ∧ shCode t = 0 := ⟨if_neg h, if_neg h⟩

theorem sh_bd {t : Tr} (hwt : t.wt ≤ 1048576) (hok : t.ok = true) : t.sh.length ≤ 8388608 ∧ 4 * t.wt + 3 * t.cnt ≤ 8388608 := by
  have h1 := Tr.sh_len t
  have h2 := (ok_right hok).2.1
  omega

end Go.Proofs.Ythmdoplickpmaai
