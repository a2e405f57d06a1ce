import Derived.Test.YtgjnlhidbjpdkajGreatW4
import Derived.Test.YtgjnlhidbjpdkajGreatS7
/-! The program's writer: a word. -/
namespace Go.Proofs.YtgjnlhidbjpdkajGreat
open Go.RowKit Go.Deep Go.Lib
set_option linter.unusedVariables false
set_option maxRecDepth 100000
set_option linter.unusedSimpArgs false

theorem own_past {w : World} {B q o n : Nat} {v u : Value} {xs : List Value} (h : w.ownsRow B 5 1 v n xs) (hq : q < B) : (w.setCell ⟨q, o, none⟩ u).ownsRow B 5 1 v n xs := by
  have hg : w.grownBy (w.setCell ⟨q, o, none⟩ u) (some q) := ⟨rfl, rfl, rfl, by simp [World.setCell], fun k _ hk => blk_setCell_other _ _ _ _ (by show k ≠ q; exact fun e => hk (by rw [e]))⟩
  refine h.kept hg (.inr fun e => ?_)
  have := (h.lt q e).1
  omega
theorem gc_c5 {w : World} {p : Nat} {gc : List Value} {x y : Value} (h5 : gc.length = 5) (h : Box w p 61 (gc ++ [x, y])) : w.cell? ⟨p, 5, none⟩ = some x ∧ w.cell? ⟨p, 6, none⟩ = some y := by
  match gc, h5 with
  | [g0, g1, g2, g3, g4], _ => exact ⟨h.cell 5 (by simp), h.cell 6 (by simp)⟩
theorem gc_s5 {gc : List Value} {x y u : Value} (h5 : gc.length = 5) : (gc ++ [x, y]).set 5 u = gc ++ [u, y] ∧ (gc ++ [x, y]).set 6 u = gc ++ [x, u] := by
  match gc, h5 with
  | [g0, g1, g2, g3, g4], _ => exact ⟨rfl, rfl⟩
/-- The row has grown, and its box has it. -/
theorem Wst.grow {p cap n' c' : Nat} {a a' : Option Addr} {gc : List Value} {out l : List UInt8} {gl : Bool} {w w' : World} (h5 : gc.length = 5) (hB : Box w p 61 (gc ++ [.slice a out.length cap, .bool gl])) (hO : w.ownsRow (p + 1) 5 1 (.slice a out.length cap) out.length (bc out)) (hn : n' = out.length + l.length) (hown : w'.ownsRow (p + 1) 5 1 (.slice a' n' c') n' (bc out ++ bc l)) (hgr : w.grownBy w' (Value.slice a out.length cap).ownBlock) :
    Box w' p 61 (gc ++ [.slice a out.length cap, .bool gl]) ∧ Box (w'.setCell ⟨p, 5, none⟩ (.slice a' n' c')) p 61 (gc ++ [.slice a' (out ++ l).length c', .bool gl]) ∧ (w'.setCell ⟨p, 5, none⟩ (.slice a' n' c')).ownsRow (p + 1) 5 1 (.slice a' (out ++ l).length c') (out ++ l).length (bc (out ++ l)) ∧ Fr p w (w'.setCell ⟨p, 5, none⟩ (.slice a' n' c')) := by
  have hlt := hB.lt
  have hB' : Box w' p 61 (gc ++ [.slice a out.length cap, .bool gl]) := hB.keep (hgr.block p hlt (fun e => by have := (World.ownsRow.lt hO p e.symm).1; omega))
  have hl : n' = (out ++ l).length := by simp [hn]
  refine ⟨hB', ?_, ?_, (Fr.grown hO hgr (by omega) (by omega)).trans (Fr.set _ _ _)⟩
  · have := hB'.set 5 (.slice a' n' c')
    rw [(gc_s5 h5).1] at this
    rw [← hl]
    exact this
  · rw [← hl, bc_append]
    exact own_past hown (by omega)

set_option maxHeartbeats 3200000 in
theorem word_any (p : Nat) (gc : List Value) (x : ByteArray) (hx : x.size ≤ 4294967296) (T : ByteArray) (G : Bool) (w : World) (h : Wr p gc T G w) :
    Calls Tryz.prog 85 #[.pointer (some ⟨p, 0, none⟩), .string x] w fun e w' => e = .returned (.tuple #[]) ∧ Wr p gc (wAdd T G x) (begB x) w' ∧ Fr p w w' := by
  obtain ⟨i5, hi5, hz0, hz1, hz2⟩ := info_parts5
  obtain ⟨out, gl, ⟨h5, a, cap, hB, hO⟩, hle, hc⟩ := h
  have hsz := wAdd_size T G x
  obtain ⟨C5, C6⟩ := gc_c5 h5 hB
  have F5 := hB.frozen 5
  have F6 := hB.frozen 6
  have hplt := hB.lt
  have HC := (show Hid _ from hc); clear hc
  have HB := (show Hid _ from hB); clear hB
  have HO := (show Hid _ from hO); clear hO
  have HZ := (show Hid _ from hsz); clear hsz
  have HE := (show Hid _ from fun w => ending_any x w)
  have HK := (show Hid _ from fun w => begin_any x w)
  by_cases hlong : 6000 < out.length
  · have hd : decide ((6000 : Int) < out.length) = true := by simp; omega
    have hfin : Wr p gc (wAdd T G x) (begB x) w := ⟨out, gl, ⟨h5, a, cap, HB.out, HO.out⟩, by have := HZ.out; omega, .inr hlong⟩
    have HF := (show Hid _ from hfin); clear hfin
    go_enter Tryz.func85, Tryz.ntmps85
    go_wp2_with fail
    refine bodyPost_ret (v := .tuple #[]) (by simp [results, Tryz.results85]) rfl ?_
    exact ⟨rfl, HF.out, Fr.refl _ _⟩
  · have hd : decide ((6000 : Int) < out.length) = false := by simp; omega
    have hTT : out = T.data.toList ∧ gl = G := by
      rcases HC.out with h | h
      · exact h
      · exact absurd h hlong
    obtain ⟨hT, rfl⟩ := hTT
    have HT := (show Hid _ from hT); clear hT
    go_enter Tryz.func85, Tryz.ntmps85
    cases gl
    · cases hE : endB x
      · rw [hE] at HE
        have HEE := (show Hid _ from hE); clear hE
        have HO1 := (show Hid _ from own_still HO.out (bel_alloc w (.cells #[.int .u8 32] 5)))
        go_wp2_with fail
        refine Calls.mono (HE.out _) ?_
        rintro e w0 ⟨rfl, rfl⟩
        go_wp2_with (at_builtin; refine wpList_append_own _ rfl (.tmp 24) (.tmp 25) 59 rfl (p + 1) 5 i5 (.int .u8 0) 1 1 Tryz.underlying59 hi5 hz0 hz1 hz2 rfl (by decide) _ _ _ rfl HO1.out ⟨w0.heap.size, 0, none⟩ 1 1 [.int .u8 32] rfl rfl (cells_box _ [.int .u8 32] _) (by intro u hu; simp at hu; subst hu; rfl) ?d1 ?d2 ?d3 ?nx)
        case d1 => unfold maxLen; omega
        case d2 => omega
        case d3 => first | omega | (simp; omega)
        case nx =>
          intro v1 w1 hown1 hgr1 _
          obtain ⟨a1, c1, rfl⟩ := own_slice hown1
          obtain ⟨hB1, hB2, hO2, hF2⟩ := Wst.grow (l := [32]) h5 (HB.out.still (bel_alloc w0 (.cells #[.int .u8 32] 5))) HO1.out rfl hown1 hgr1
          have hF := (Fr.of_below (p := p) (bel_alloc w0 (.cells #[.int .u8 32] 5)) (by omega)).trans hF2
          clear hown1 hgr1 HO1 hF2
          have D5 := (gc_c5 h5 hB1).1
          have E5 := hB1.frozen 5
          have HX := (show Hid _ from (⟨HEE.out, hB2, hO2, hF⟩ : _ ∧ _ ∧ _ ∧ _)); clear hB2 hO2 hF hB1
          clear C5 C6 F5 F6
          have hB4 : Box (w1.setCell ⟨p, 5, none⟩ (.slice a1 (out.length + 1) c1)) p 61 (gc ++ [.slice a1 (out ++ [32]).length c1, .bool false]) := HX.out.2.1
          have hO4 : World.ownsRow (w1.setCell ⟨p, 5, none⟩ (.slice a1 (out.length + 1) c1)) (p + 1) 5 1 (.slice a1 (out ++ [32]).length c1) (out ++ [32]).length (bc (out ++ [32])) := HX.out.2.2.1
          have hF4 : Fr p w0 (w1.setCell ⟨p, 5, none⟩ (.slice a1 (out.length + 1) c1)) := HX.out.2.2.2
          have hX4 : (out ++ [32]) ++ x.data.toList = (wAdd T false x).data.toList := by
            unfold wAdd
            rw [HX.out.1, HT.out]
            simp
          have hll : (out ++ [32]).length ≤ 6001 := by first | omega | (simp; omega)
          obtain ⟨C5, C6⟩ := gc_c5 h5 hB4
          have F5 := hB4.frozen 5
          have F6 := hB4.frozen 6
          have hp2 : p < (World.heap (w1.setCell ⟨p, 5, none⟩ (.slice a1 (out.length + 1) c1))).size := hB4.lt
          have HX4 := (show Hid _ from (⟨hB4, hO4, hF4, hX4⟩ : _ ∧ _ ∧ _ ∧ _)); clear hB4 hO4 hF4 hX4
          generalize (out ++ [32]) = o1 at *
          go_wp2_with (at_builtin; refine wpList_append_own_string (w := _) rfl (.tmp 33) (.tmp 34) 59 9 rfl (p + 1) 5 i5 Tryz.underlying59 Tryz.underlying9 hi5 hz0 hz1 hz2 _ _ _ rfl HX4.out.2.1 x rfl ?c1 ?c2 ?c3 ?nx)
          case c1 => unfold maxLen; omega
          case c2 => omega
          case c3 => first | omega | (simp; omega)
          case nx =>
            intro v3 w3 hown3 hgr3 _
            obtain ⟨a3, c3, rfl⟩ := own_slice hown3
            obtain ⟨hB5, hB6, hO6, hF6⟩ := Wst.grow (l := x.data.toList) h5 HX4.out.1 HX4.out.2.1 rfl hown3 hgr3
            have G5 := (gc_c5 h5 hB5).1
            have J5 := hB5.frozen 5
            have G6 := (gc_c5 h5 hB5).2
            have J6 := hB5.frozen 6
            have HX6 := (show Hid _ from (⟨hB6, hO6, HX4.out.2.2.1.trans hF6, HX4.out.2.2.2⟩ : _ ∧ _ ∧ _ ∧ _)); clear hB5 hB6 hO6 hF6 hown3 hgr3 C5 C6 F5 F6 HX4
            go_wp2_with fail
            refine Calls.mono (HK.out _) ?_
            rintro e w5 ⟨rfl, rfl⟩
            go_wp2_with fail
            refine bodyPost_end (v := .tuple #[]) (by simp [results, Tryz.results85]) rfl ?_
            refine ⟨rfl, ⟨o1 ++ x.data.toList, begB x, ⟨h5, a3, c3, ?_, own_past HX6.out.2.1 (by omega)⟩, ?_, .inl ⟨HX6.out.2.2.2, rfl⟩⟩, HX6.out.2.2.1.trans (Fr.set _ _ _)⟩
            · have := HX6.out.1.set 6 (.bool (begB x))
              rw [(gc_s5 h5).2] at this
              exact this
            · rw [HX6.out.2.2.2, dt_length]; exact Nat.le_refl _
      · rw [hE] at HE
        have HEE := (show Hid _ from hE); clear hE
        go_wp2_with fail
        refine Calls.mono (HE.out _) ?_
        rintro e w0 ⟨rfl, rfl⟩
        go_simp
        clear C5 C6 F5 F6
        have hB4 : Box (w0) p 61 (gc ++ [.slice a (out).length cap, .bool false]) := HB.out
        have hO4 : World.ownsRow (w0) (p + 1) 5 1 (.slice a (out).length cap) (out).length (bc (out)) := HO.out
        have hF4 : Fr p w0 (w0) := Fr.refl _ _
        have hX4 : (out) ++ x.data.toList = (wAdd T false x).data.toList := by
          unfold wAdd
          rw [HEE.out, HT.out]
          simp
        have hll : (out).length ≤ 6001 := by first | omega | (simp; omega)
        obtain ⟨C5, C6⟩ := gc_c5 h5 hB4
        have F5 := hB4.frozen 5
        have F6 := hB4.frozen 6
        have hp2 : p < (World.heap (w0)).size := hB4.lt
        have HX4 := (show Hid _ from (⟨hB4, hO4, hF4, hX4⟩ : _ ∧ _ ∧ _ ∧ _)); clear hB4 hO4 hF4 hX4
        generalize (out) = o1 at *
        go_wp2_with (at_builtin; refine wpList_append_own_string (w := _) rfl (.tmp 33) (.tmp 34) 59 9 rfl (p + 1) 5 i5 Tryz.underlying59 Tryz.underlying9 hi5 hz0 hz1 hz2 _ _ _ rfl HX4.out.2.1 x rfl ?c1 ?c2 ?c3 ?nx)
        case c1 => unfold maxLen; omega
        case c2 => omega
        case c3 => first | omega | (simp; omega)
        case nx =>
          intro v3 w3 hown3 hgr3 _
          obtain ⟨a3, c3, rfl⟩ := own_slice hown3
          obtain ⟨hB5, hB6, hO6, hF6⟩ := Wst.grow (l := x.data.toList) h5 HX4.out.1 HX4.out.2.1 rfl hown3 hgr3
          have G5 := (gc_c5 h5 hB5).1
          have J5 := hB5.frozen 5
          have G6 := (gc_c5 h5 hB5).2
          have J6 := hB5.frozen 6
          have HX6 := (show Hid _ from (⟨hB6, hO6, HX4.out.2.2.1.trans hF6, HX4.out.2.2.2⟩ : _ ∧ _ ∧ _ ∧ _)); clear hB5 hB6 hO6 hF6 hown3 hgr3 C5 C6 F5 F6 HX4
          go_wp2_with fail
          refine Calls.mono (HK.out _) ?_
          rintro e w5 ⟨rfl, rfl⟩
          go_wp2_with fail
          refine bodyPost_end (v := .tuple #[]) (by simp [results, Tryz.results85]) rfl ?_
          refine ⟨rfl, ⟨o1 ++ x.data.toList, begB x, ⟨h5, a3, c3, ?_, own_past HX6.out.2.1 (by omega)⟩, ?_, .inl ⟨HX6.out.2.2.2, rfl⟩⟩, HX6.out.2.2.1.trans (Fr.set _ _ _)⟩
          · have := HX6.out.1.set 6 (.bool (begB x))
            rw [(gc_s5 h5).2] at this
            exact this
          · rw [HX6.out.2.2.2, dt_length]; exact Nat.le_refl _
    · clear C5 F5 F6
      have hB4 : Box (w) p 61 (gc ++ [.slice a (out).length cap, .bool true]) := HB.out
      have hO4 : World.ownsRow (w) (p + 1) 5 1 (.slice a (out).length cap) (out).length (bc (out)) := HO.out
      have hF4 : Fr p w (w) := Fr.refl _ _
      have hX4 : (out) ++ x.data.toList = (wAdd T true x).data.toList := by
        unfold wAdd
        rw [HT.out]
        simp
      have hll : (out).length ≤ 6001 := by first | omega | (simp; omega)
      obtain ⟨C5, C6⟩ := gc_c5 h5 hB4
      have F5 := hB4.frozen 5
      have F6 := hB4.frozen 6
      have hp2 : p < (World.heap (w)).size := hB4.lt
      have HX4 := (show Hid _ from (⟨hB4, hO4, hF4, hX4⟩ : _ ∧ _ ∧ _ ∧ _)); clear hB4 hO4 hF4 hX4
      generalize (out) = o1 at *
      go_wp2_with (at_builtin; refine wpList_append_own_string (w := _) rfl (.tmp 33) (.tmp 34) 59 9 rfl (p + 1) 5 i5 Tryz.underlying59 Tryz.underlying9 hi5 hz0 hz1 hz2 _ _ _ rfl HX4.out.2.1 x rfl ?c1 ?c2 ?c3 ?nx)
      case c1 => unfold maxLen; omega
      case c2 => omega
      case c3 => first | omega | (simp; omega)
      case nx =>
        intro v3 w3 hown3 hgr3 _
        obtain ⟨a3, c3, rfl⟩ := own_slice hown3
        obtain ⟨hB5, hB6, hO6, hF6⟩ := Wst.grow (l := x.data.toList) h5 HX4.out.1 HX4.out.2.1 rfl hown3 hgr3
        have G5 := (gc_c5 h5 hB5).1
        have J5 := hB5.frozen 5
        have G6 := (gc_c5 h5 hB5).2
        have J6 := hB5.frozen 6
        have HX6 := (show Hid _ from (⟨hB6, hO6, HX4.out.2.2.1.trans hF6, HX4.out.2.2.2⟩ : _ ∧ _ ∧ _ ∧ _)); clear hB5 hB6 hO6 hF6 hown3 hgr3 C5 C6 F5 F6 HX4
        go_wp2_with fail
        refine Calls.mono (HK.out _) ?_
        rintro e w5 ⟨rfl, rfl⟩
        go_wp2_with fail
        refine bodyPost_end (v := .tuple #[]) (by simp [results, Tryz.results85]) rfl ?_
        refine ⟨rfl, ⟨o1 ++ x.data.toList, begB x, ⟨h5, a3, c3, ?_, own_past HX6.out.2.1 (by omega)⟩, ?_, .inl ⟨HX6.out.2.2.2, rfl⟩⟩, HX6.out.2.2.1.trans (Fr.set _ _ _)⟩
        · have := HX6.out.1.set 6 (.bool (begB x))
          rw [(gc_s5 h5).2] at this
          exact this
        · rw [HX6.out.2.2.2, dt_length]; exact Nat.le_refl _
end Go.Proofs.YtgjnlhidbjpdkajGreat
