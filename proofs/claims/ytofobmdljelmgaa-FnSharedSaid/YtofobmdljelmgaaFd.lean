import Derived.Test.YtofobmdljelmgaaFc
/-! DrawShare, walked. -/
namespace Go.Proofs.Ytofobmdljelmgaa
open Go.RowKit Go.Deep Go.Lib
set_option linter.unusedVariables false
set_option maxRecDepth 100000
set_option linter.unusedSimpArgs false

/-- What stands while the row is drawn. -/
structure DsI (w wr : World) (cs : List UInt8) (a : Option Addr) (cap b off : Nat) (s : Nat × Nat) (k : List Tr) (v : Value) : Prop where
  bel : Below w.heap.size w wr
  cur : Cur wr cs a cap b off w.heap.size s
  row : Rwl k (w.heap.size + 1) v wr
theorem DsI.out {w wr wq : World} {cs : List UInt8} {a : Option Addr} {cap b off : Nat} {s s' : Nat × Nat} {k : List Tr} {v : Value} (h : DsI w wr cs a cap b off s k v) (ho : Out w.heap.size (w.heap.size + 1) wr wq) (hc : Cur wq cs a cap b off w.heap.size s') : DsI w wq cs a cap b off s' k v :=
  ⟨out_belowF h.bel ho, hc, h.row.out ho (by omega)⟩
where out_belowF {w wr wq : World} (h : Below w.heap.size w wr) (ho : Out w.heap.size (w.heap.size + 1) wr wq) : Below w.heap.size w wq :=
  ⟨ho.1.trans h.os, ho.2.1.trans h.tape, ho.2.2.1.trans h.output, Nat.le_trans h.size ho.2.2.2.1, fun q hq => (ho.2.2.2.2 q (by have := h.size; omega) (by omega)).trans (h.block q hq)⟩
/-- A tree is put behind the row. -/
theorem DsI.push {w w1 w7 : World} {cs : List UInt8} {a : Option Addr} {cap b off : Nat} {s : Nat × Nat} {k : List Tr} {v u : Value} {t : Tr} {g cp : Nat} {fs : Nat → Value} {o : Obj} (h : DsI w w1 cs a cap b off s k v)
    (hown : (w1.alloc o).ownsRow (w.heap.size + 1) 39 4 v k.length (kc k fs k.length)) (hls : ∀ i, i < k.length → Lies (w1.alloc o) (fun q => w.heap.size + 1 ≤ q ∧ v.ownBlock ≠ some q) (nth k i) (fs i)) (hx : Lies w1 (fun q => w.heap.size + 1 ≤ q ∧ v.ownBlock ≠ some q) t u)
    (hown3 : w7.ownsRow (w.heap.size + 1) 39 4 (.slice (some ⟨g, 0, none⟩) (k.length + 1) cp) (k.length + 1) (kc k fs k.length ++ [.string t.name, .string t.text, .bool t.leaf, u]))
    (hgr : (w1.alloc o).grownBy w7 v.ownBlock) (hat : v.ownBlock = some g ∨ g = (w1.alloc o).heap.size) : DsI w w7 cs a cap b off s (k ++ [t]) (.slice (some ⟨g, 0, none⟩) (k.length + 1) cp) := by
  have hb := bel_alloc w1 o
  have hub : ∀ q, v.ownBlock = some q → w.heap.size + 1 ≤ q := fun q hq => (World.ownsRow.lt hown q hq).1
  have hs := h.bel.size
  have hcl := h.cur.lt
  have hsg := hgr.size
  simp only [World.size_alloc] at hsg
  have hblk : ∀ q, q < w.heap.size + 1 → w7.heap[q]? = w1.heap[q]? := fun q hq => (hgr.block q (by simp; omega) (fun e => by have := hub q e.symm; omega)).trans (hb.block q (by omega))
  refine ⟨⟨hgr.os.trans (hb.os.trans h.bel.os), hgr.tape.trans (hb.tape.trans h.bel.tape), hgr.output.trans (hb.output.trans h.bel.output), by omega, fun q hq => (hblk q (by omega)).trans (h.bel.block q hq)⟩, h.cur.keep (fun q hq => hblk q (by omega)), (Rwl.push hown hls (hx.still hb) hown3 hgr hat).1⟩
def slen : Value → Nat
  | .slice _ n _ => n
  | _ => 0
/-- What DrawShare leaves. -/
def DsA (cs : List UInt8) (w : World) (e : Ending) (w' : World) : Prop :=
  ∃ (xa : Option Addr) (xc : Nat), e = .returned (.slice xa (cShare cs).length xc) ∧ Below w.heap.size w w' ∧ Trs w' (fun q => q < w'.heap.size) (cShare cs) (.slice xa (cShare cs).length xc)
theorem DsI.done {w wr : World} {cs : List UInt8} {a : Option Addr} {cap b off : Nat} {s : Nat × Nat} {k : List Tr} {xa : Option Addr} {xc : Nat} (h : DsI w wr cs a cap b off s k (.slice xa k.length xc)) (hk : cShare cs = k) : DsA cs w (.returned (.slice xa k.length xc)) wr := by
  subst hk
  exact ⟨xa, xc, rfl, h.bel, h.row.trs⟩
theorem cPad_step (cs : List UInt8) (f : Nat) (k : List Tr) (s : Nat × Nat) : cPad cs (f + 1) k s = if k.length < 20 + (cPick cs 2 s).1 then cPad cs f (k ++ [abT]) (cPick cs 2 s).2 else k := rfl
set_option maxHeartbeats 3200000 in
theorem drawShare6 {cs : List UInt8} {a : Option Addr} {cap b off : Nat} (w : World) (h2 : cs.length ≤ 1048576) (h3 : cs.length ≤ cap) (h4 : cap ≤ 2 ^ 63 - 1) (hb : 0 < cs.length → b < w.heap.size) (h6 : 0 < cs.length → a = some ⟨b, off, none⟩) (h7 : Byts w cs b off) :
    Calls Try.prog 8 #[.slice a cs.length cap] w (DsA cs w) := by
  have HDC := (show Hid _ from drawCur_any w h2 h3 h4 hb h6 h7)
  clear h2 h3 h4 hb h6 h7
  obtain ⟨i39, hi39, hz0, hz1, hz2⟩ := info_parts info39
  go_enter Try.func8, Try.ntmps8
  go_wp2_with fail
  refine Calls.mono HDC.out ?_
  rintro e w1 ⟨rfl, hb1, hs1, hc1⟩
  have H1 := (show Hid (Below w.heap.size w w1 ∧ w1.heap.size = w.heap.size + 1) from ⟨hb1, hs1⟩)
  have HDT := (show Hid (Calls Try.prog 27 #[.pointer (some ⟨w.heap.size, 0, none⟩)] w1 (DrewR cs a cap b off w.heap.size (cRow cs (0, 17 + cs.length)) w1)) from drawTrees16 _ w1 hc1)
  clear HDC hb1 hs1 hc1
  go_wp2_with fail
  refine Calls.mono HDT.out ?_
  rintro e w2 ⟨xa, xm, xc, rfl, ho2, hc2, hr2⟩
  have hI2 : DsI w w2 cs a cap b off (cRow cs (0, 17 + cs.length)).2 (cRow cs (0, 17 + cs.length)).1 (.slice xa xm xc) := by
    refine ⟨DsI.out.out_belowF H1.out.1 ho2, hc2, ?_⟩
    rw [← H1.out.2]
    exact hr2
  have hl6 := cRow_len cs (0, 17 + cs.length)
  have HCS := (show Hid (cShare cs = if (cPick cs 12 (cRow cs (0, 17 + cs.length)).2).1 = 0 then (cRow cs (0, 17 + cs.length)).1 ++ [(cAny cs (cPick cs 12 (cRow cs (0, 17 + cs.length)).2).2).1]
    else if (cPick cs 12 (cRow cs (0, 17 + cs.length)).2).1 = 1 then cPad cs 22 (cRow cs (0, 17 + cs.length)).1 (cPick cs 12 (cRow cs (0, 17 + cs.length)).2).2
    else (cRow cs (0, 17 + cs.length)).1) from rfl)
  have HPK := (show Hid _ from pick_any 12 w2 hc2 (by omega))
  obtain ⟨ya, yc, ey⟩ := hI2.row.form
  simp only [Value.slice.injEq] at ey
  obtain ⟨rfl, rfl, rfl⟩ := ey
  clear H1 HDT ho2 hc2 hr2
  have HI2 := (show Hid _ from hI2); clear hI2
  generalize cRow cs (0, 17 + cs.length) = rw0 at *
  obtain ⟨k, s1⟩ := rw0
  dsimp only at HI2 hl6 HCS HPK
  have hp12 := cPick_lt cs 12 s1 (by omega)
  generalize cPick cs 12 s1 = pq at *
  obtain ⟨p, s2⟩ := pq
  dsimp only at HCS HPK hp12
  go_wp2_with fail
  refine Calls.mono HPK.out ?_
  rintro e w3 ⟨rfl, ho3, hs3, hc3⟩
  have HI3 := (show Hid (DsI w w3 cs a cap b off s2 k (.slice xa k.length xc)) from DsI.out HI2.out ho3 hc3)
  clear HI2 HPK ho3 hs3 hc3
  by_cases hp0 : p = 0
  · subst hp0
    rw [if_pos rfl] at HCS
    have HCL := (show Hid (Calls Try.prog 29 #[.pointer (some ⟨w.heap.size, 0, none⟩)] w3 fun e w' => DrewL cs a cap b off w.heap.size (cAny cs s2) w3 e w') from drawAny_any s2 w3 HI3.out.cur)
    generalize cAny cs s2 = r at *
    obtain ⟨t, s3⟩ := r
    dsimp only at HCS
    have heq0 : ((0 : Int) == 0) = true := rfl
    go_wp2_with fail
    refine Calls.mono HCL.out ?_
    rintro e w4 ⟨za, zm, zc, rfl, ho4, hc4, hl4⟩
    dsimp only at hc4 hl4 ⊢
    have hI4 := DsI.out HI3.out ho4 hc4
    have hown3 : ∀ q, (Value.slice xa k.length xc).ownBlock = some q → q < w3.heap.size := by
      obtain ⟨fs, ho, _⟩ := HI3.out.row
      exact fun q hq => (World.ownsRow.lt ho q hq).2
    have hx4 : Lies w4 (fun q => w.heap.size + 1 ≤ q ∧ (Value.slice xa k.length xc).ownBlock ≠ some q) t (.slice za zm zc) := hl4.mono (fun q hq => ⟨by have := HI3.out.cur.lt; omega, fun e => by have := hown3 q e; omega⟩)
    obtain ⟨fs, ho5, hls5⟩ := hI4.row.still (bel_alloc w4 (.cells #[.string t.name, .string t.text, .bool t.leaf, .slice za zm zc] 39))
    have HO := (show Hid _ from ho5)
    have HZ := (show Hid (w.heap.size + 1 ≤ (w4.alloc (.cells #[.string t.name, .string t.text, .bool t.leaf, .slice za zm zc] 39)).heap.size) from (by have := hI4.cur.lt; show _ ≤ _; simp; omega))
    have HUP := (show Hid (∀ (g7 cap7 : Nat) (w7 : World), w7.ownsRow (w.heap.size + 1) 39 4 (.slice (some ⟨g7, 0, none⟩) (k.length + 1) cap7) (k.length + 1) (kc k fs k.length ++ [.string t.name, .string t.text, .bool t.leaf, .slice za zm zc]) → (w4.alloc (.cells #[.string t.name, .string t.text, .bool t.leaf, .slice za zm zc] 39)).grownBy w7 (Value.slice xa k.length xc).ownBlock → ((Value.slice xa k.length xc).ownBlock = some g7 ∨ g7 = (w4.alloc (.cells #[.string t.name, .string t.text, .bool t.leaf, .slice za zm zc] 39)).heap.size) → DsA cs w (.returned (.slice (some ⟨g7, 0, none⟩) (k.length + 1) cap7)) w7) from fun g7 cap7 w7 e1 e2 e3 => by
      have := hI4.push ho5 hls5 hx4 e1 e2 e3
      have hlen : (k ++ [t]).length = k.length + 1 := by simp
      rw [← hlen] at this ⊢
      exact this.done HCS.out)
    clear hI4 hown3 hx4 ho5 hls5 ho4 hc4 hl4 HCL HI3 HCS
    go_wp2_with (at_builtin; refine wpList_append_lies _ rfl (.tmp 13) (.tmp 16) 30 rfl (w.heap.size + 1) 39 i39 _ 4 64 Try.underlying30 hi39 hz0 hz1 hz2 rfl (by decide) _ k.length (kc k fs k.length) rfl HO.out ⟨w4.heap.size, 0, none⟩ 1 1 [.string t.name, .string t.text, .bool t.leaf, .slice za zm zc] rfl rfl ?c1 ?c2 (by decide) ?c3 (by omega) ?c5 _ rfl ?nx)
    case c1 => exact cell_four_box _ _ _ _ _ _
    case c2 => intro u hu; simp at hu; rcases hu with rfl | rfl | rfl | rfl <;> rfl
    case c3 => unfold maxLen; omega
    case c5 => exact HZ.out
    case nx =>
      intro g4 cap4 w5 hown4 hgr4 hat4 hlt4
      have HE := (show Hid _ from HUP.out g4 cap4 w5 hown4 hgr4 (by simpa using hat4))
      clear hown4 hgr4 hat4 hlt4 HUP HO HZ
      go_wp2_with fail
      go_ret
      exact HE.out
  · rw [if_neg hp0] at HCS
    have hne0 : ((p : Int) == 0) = false := by simp; omega
    by_cases hp1 : p = 1
    · subst hp1
      rw [if_pos rfl] at HCS
      have heq1 : ((1 : Int) == 1) = true := rfl
      have hne0' : ((1 : Int) == 0) = false := rfl
      go_wp2_with fail
      go_loopw [4] (fun v wr => ∃ (f : Nat) (kj : List Tr) (sj : Nat × Nat) (ya : Option Addr) (yc : Nat), v = .slice ya kj.length yc ∧ kj.length ≤ 21 ∧ 22 ≤ kj.length + f ∧ Hid (cShare cs = cPad cs f kj sj) ∧ Hid (DsI w wr cs a cap b off sj kj (.slice ya kj.length yc))) (fun v _ => 21 - slen v)
      case atStart => exact ⟨22, k, s2, xa, xc, rfl, by omega, by omega, HCS.out, HI3.out⟩
      case round =>
        obtain ⟨f, kj, sj, ya, yc, rfl, hkj, hf, HCP, HT⟩ := hrel
        clear HI3 HCS
        obtain ⟨f, rfl⟩ : ∃ i, f = i + 1 := ⟨f - 1, by omega⟩
        have hstep := cPad_step cs f kj sj
        have HPK := (show Hid _ from pick_any 2 wr HT.out.cur (by omega))
        have hq2 := cPick_lt cs 2 sj (by omega)
        generalize cPick cs 2 sj = pq at *
        obtain ⟨q, s3⟩ := pq
        dsimp only at hstep HPK hq2
        have hw20 : IntKind.i64.wrap (20 + (q : Int)) = 20 + (q : Int) := by rw [IntKind.wrap_i64]; omega
        by_cases hlt : kj.length < 20 + q
        · rw [if_pos hlt] at hstep
          have HCP2 := (show Hid (cShare cs = cPad cs f (kj ++ [abT]) s3) from HCP.out.trans hstep)
          clear HCP hstep
          have hlti : (kj.length : Int) < 20 + (q : Int) := by omega
          go_wp2_with fail
          refine Calls.mono HPK.out ?_
          rintro e w4 ⟨rfl, ho4, hs4, hc4⟩
          have HI4 := (show Hid (DsI w w4 cs a cap b off s3 kj (.slice ya kj.length yc)) from DsI.out HT.out ho4 hc4)
          clear ho4 hs4 hc4 HT HPK
          go_wp2_with fail
          refine Calls.mono (leafD_any _ _ _) ?_
          rintro e w5 ⟨rfl, hb5⟩
          have hI5 : DsI w w5 cs a cap b off s3 kj (.slice ya kj.length yc) := ⟨HI4.out.bel.trans (hb5.mono HI4.out.bel.size), HI4.out.cur.still hb5, HI4.out.row.still hb5⟩
          obtain ⟨fs, ho6, hls6⟩ := hI5.row.still (bel_alloc w5 (.cells #[.string ⟨#[97]⟩, .string ⟨#[98]⟩, .bool true, .slice none 0 0] 39))
          have HO := (show Hid _ from ho6)
          have HZ := (show Hid (w.heap.size + 1 ≤ (w5.alloc (.cells #[.string ⟨#[97]⟩, .string ⟨#[98]⟩, .bool true, .slice none 0 0] 39)).heap.size) from (by have := hI5.cur.lt; show _ ≤ _; simp; omega))
          have HUP := (show Hid (∀ (g7 cap7 : Nat) (w7 : World), w7.ownsRow (w.heap.size + 1) 39 4 (.slice (some ⟨g7, 0, none⟩) (kj.length + 1) cap7) (kj.length + 1) (kc kj fs kj.length ++ [.string ⟨#[97]⟩, .string ⟨#[98]⟩, .bool true, .slice none 0 0]) → (w5.alloc (.cells #[.string ⟨#[97]⟩, .string ⟨#[98]⟩, .bool true, .slice none 0 0] 39)).grownBy w7 (Value.slice ya kj.length yc).ownBlock → ((Value.slice ya kj.length yc).ownBlock = some g7 ∨ g7 = (w5.alloc (.cells #[.string ⟨#[97]⟩, .string ⟨#[98]⟩, .bool true, .slice none 0 0] 39)).heap.size) → DsI w w7 cs a cap b off s3 (kj ++ [abT]) (.slice (some ⟨g7, 0, none⟩) (kj.length + 1) cap7)) from fun g7 cap7 w7 e1 e2 e3 =>
            hI5.push (t := abT) ho6 hls6 (lies_nil _ _ _ _ _ (by show (1 : Nat) ≤ _; decide) (by show (1 : Nat) ≤ _; decide)) e1 e2 e3)
          clear hI5 ho6 hls6 hb5 HI4
          go_wp2_with (at_builtin; refine wpList_append_lies _ rfl (.tmp 26) (.tmp 28) 30 rfl (w.heap.size + 1) 39 i39 _ 4 64 Try.underlying30 hi39 hz0 hz1 hz2 rfl (by decide) _ kj.length (kc kj fs kj.length) rfl HO.out ⟨w5.heap.size, 0, none⟩ 1 1 [.string ⟨#[97]⟩, .string ⟨#[98]⟩, .bool true, .slice none 0 0] rfl rfl ?c1 ?c2 (by decide) ?c3 (by omega) ?c5 _ rfl ?nx)
          case c1 => exact cell_four_box _ _ _ _ _ _
          case c2 => intro u hu; simp at hu; rcases hu with rfl | rfl | rfl | rfl <;> rfl
          case c3 => unfold maxLen; omega
          case c5 => exact HZ.out
          case nx =>
            intro g4 cap4 w6 hown4 hgr4 hat4 hlt4
            have hI6 := HUP.out g4 cap4 w6 hown4 hgr4 (by simpa using hat4)
            have hlen : (kj ++ [abT]).length = kj.length + 1 := by simp
            have HI6 := (show Hid (DsI w w6 cs a cap b off s3 (kj ++ [abT]) (.slice (some ⟨g4, 0, none⟩) (kj ++ [abT]).length cap4)) from (by rw [hlen]; exact hI6))
            clear hown4 hgr4 hat4 hlt4 HUP HO HZ hI6 hlen
            go_wp2_with fail
            exact ⟨⟨f, kj ++ [abT], s3, _, _, by simp, by simp; omega, by simp; omega, HCP2, HI6⟩, by simp [slen]; omega⟩
        · rw [if_neg hlt] at hstep
          have HCP2 := (show Hid (cShare cs = kj) from HCP.out.trans hstep)
          clear HCP hstep
          have hlti : ¬ ((kj.length : Int) < 20 + (q : Int)) := by omega
          go_wp2_with fail
          refine Calls.mono HPK.out ?_
          rintro e w4 ⟨rfl, ho4, hs4, hc4⟩
          have HE := (show Hid _ from (DsI.out HT.out ho4 hc4).done HCP2.out)
          clear ho4 hs4 hc4 HT HPK HCP2
          go_wp2_with fail
          go_ret
          exact HE.out
    · rw [if_neg hp1] at HCS
      have hne1 : ((p : Int) == 1) = false := by simp; omega
      have HE := (show Hid _ from DsI.done HI3.out HCS.out)
      clear HI3 HCS
      go_wp2_with fail
      go_ret
      exact HE.out
end Go.Proofs.Ytofobmdljelmgaa
