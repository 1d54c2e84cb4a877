/- What Dump answers. -/
import Derived.Test.YtjkajhnnoecjbaaDoorVwOct
import Derived.Test.YtjkajhnnoecjbaaDoorVwBuild
set_option linter.unusedVariables false
namespace Go.Proofs.YtjkajhnnoecjbaaDoor.Vw
open Go.RowKit Go.Shelf Cu

/-- what is told ahead of a line of sixteen -/
def lineTo (s : Bs) (k : Nat) : Bs := dumpTo s k ++ nl k
theorem lineTo_len (s : Bs) (k : Nat) (h : k < 2 ^ 60) : (lineTo s k).length ≤ 40 * k + 1 := by
  have h1 := dumpTo_len s k (by omega)
  have h2 := nl_len k
  unfold lineTo
  rw [List.length_append]; omega
/-- .. and within it -/
def midTo (s : Bs) (f i : Nat) : Bs := if i = f then lineTo s f ++ octP f 7 else dumpTo s i
theorem midTo_start (s : Bs) (f : Nat) : midTo s f f = lineTo s f ++ octP f 7 := by simp [midTo]
theorem midTo_step (s : Bs) (f i : Nat) (hf : f % 16 = 0) (h1 : f ≤ i) (h2 : i < f + 16) : midTo s f (i + 1) = (midTo s f i ++ [32]) ++ octP (s.getD i 0).toNat 3 := by
  rw [midTo, if_neg (by omega), dumpTo]
  by_cases he : i = f
  · subst he
    rw [midTo_start, if_pos hf]
    unfold lineTo
    simp [List.append_assoc]
  · rw [if_neg (by omega), midTo, if_neg he]
    simp [List.append_assoc]
theorem midTo_len (s : Bs) (f i : Nat) (hi : i < 2 ^ 60) (hf : f < 2 ^ 60) : (midTo s f i).length ≤ 40 * (i + f) + 30 := by
  unfold midTo
  split
  · have h1 := lineTo_len s f hf
    have h2 := octP_len f 7 (by omega)
    rw [List.length_append]; omega
  · have h1 := dumpTo_len s i (by omega)
    omega
theorem midTo_end (s : Bs) (f i : Nat) (h : f < i) : midTo s f i ++ [10] = lineTo s i := by
  unfold midTo lineTo nl
  rw [if_neg (by omega), if_pos (by omega)]

set_option maxRecDepth 100000 in
set_option maxHeartbeats 600000 in
theorem dump_any (s : ByteArray) (w : World) (hs : s.size ≤ 1073741824) (hT : Tz w) :
    Calls Tryd.prog 20 #[.string s] w fun e w' => e = .returned (.string (bt (dumpP (bs s)))) ∧ Below w.heap.size w w' := by
  have HT := hide hT
  have HP : Hid (dumpP (bs s) = (lineTo (bs s) s.size ++ octP s.size 7) ++ [10]) := by
    show _ = _
    unfold dumpP lineTo
    rfl
  go_enter Tryd.func20, Tryd.ntmps20
  go_wp2_with fail
  go_loopw [4] (fun v wr => ∃ f : Nat, v = .int .i64 f ∧ f % 16 = 0 ∧ f ≤ s.size + 15 ∧ Hid (IsB w.heap.size w.heap.size (lineTo (bs s) (min f s.size)) wr) ∧ Hid (Below w.heap.size w wr)) (fun v _ => s.size + 16 - (intOf v).toNat)
  case atStart => exact ⟨0, rfl, rfl, by omega, by rw [Nat.zero_min]; exact isB_new w, (Below.refl _ _).alloc (Nat.le_refl _) _⟩
  case round =>
    obtain ⟨f, rfl, hf16, hfs, hI, hB⟩ := hrel
    have hsz := (unhide hB).size
    by_cases hlt : f < s.size
    · have hlt' : (f : Int) < (s.size : Int) := by omega
      rw [show min f s.size = f by omega] at hI
      have HO := hide (octal_any f 7 wr (by omega) (by omega) (hT.below (unhide hB)))
      have hol := octP_len f 7 (by omega)
      have hll := lineTo_len (bs s) f (by omega)
      have H1 : Hid (∀ W, Below wr.heap.size wr W → Calls Tryd.prog 71 #[.pointer (some ⟨w.heap.size, 0, none⟩), .string (bt (octP f 7))] W fun e w' => e = .returned (.tuple #[.int .i64 (bt (octP f 7)).size, .nilIface]) ∧ IsB w.heap.size w.heap.size (midTo (bs s) f f) w' ∧ Below w.heap.size W w') := fun W hW => by
        rw [midTo_start]
        exact ws_any w.heap.size w.heap.size _ (bt (octP f 7)) W (isB_below (unhide hI) hW) (by rw [bt_len]; omega) (by have := hW.size; omega)
      generalize bt (octP f 7) = x at *
      clear hI
      go_wp2_with fail
      refine (unhide HO).mono ?_
      rintro e w1 ⟨rfl, b1⟩
      have B1 := hide ((unhide hB).trans (b1.mono hsz))
      have H1 := hide (unhide H1 w1 b1)
      clear HO b1
      go_wp2_with fail
      refine (unhide H1).mono ?_
      rintro e w2 ⟨rfl, hI2, b2⟩
      have B2 := hide ((unhide B1).trans b2)
      have HI2 := hide hI2
      clear H1 B1 b2 hI2 hB
      go_wp2_with fail
      go_loopw [5] (fun v wr => ∃ i : Nat, v = .int .i64 i ∧ f ≤ i ∧ i ≤ min (f + 16) s.size ∧ Hid (IsB w.heap.size w.heap.size (midTo (bs s) f i) wr) ∧ Hid (Below w.heap.size w wr)) (fun v _ => f + 16 - (intOf v).toNat)
      case atStart => exact ⟨f, rfl, Nat.le_refl _, by omega, HI2, B2⟩
      case round =>
        clear HI2 B2 hsz
        obtain ⟨i, rfl, hi1, hi2, hI, hB⟩ := hrel
        have hsz := (unhide hB).size
        have hml := midTo_len (bs s) f i (by omega) (by omega)
        by_cases hi : i < min (f + 16) s.size
        · have hi3 : i < s.size := by omega
          have hi3' : (i : Int) < (s.size : Int) := by omega
          have hmin : (i : Int) < min ((f : Int) + 16) (s.size : Int) := by omega
          have HW : Hid (Calls Tryd.prog 73 #[.pointer (some ⟨w.heap.size, 0, none⟩), .int .u8 32] wr fun e w' => e = .returned .nilIface ∧ IsB w.heap.size w.heap.size (midTo (bs s) f i ++ [32]) w' ∧ Below w.heap.size wr w') := wb_any w.heap.size w.heap.size _ 32 wr (unhide hI) (by omega) hsz
          have HO : Hid (∀ W, Below w.heap.size w W → Calls Tryd.prog 72 #[.int .i64 (s[i].toNat : Int), .int .i64 3] W fun e w' => e = .returned (.string (bt (octP s[i].toNat 3))) ∧ Below W.heap.size W w') := fun W hW => octal_any s[i].toNat 3 W (by have := s[i].toNat_lt; omega) (by omega) (hT.below hW)
          have hst := hide (midTo_step (bs s) f i hf16 hi1 (by omega))
          rw [show (bs s).getD i 0 = s[i] by rw [List.getD, List.getElem?_eq_getElem (show i < (bs s).length from hi3)]; rfl] at hst
          have h256 : (s[i].toNat : Int) < 256 := by have := s[i].toNat_lt; omega
          have h000 : (0 : Int) ≤ (s[i].toNat : Int) := by omega
          have hol := octP_len3 s[i]
          have hol' : (bt (octP s[i].toNat 3)).size = 3 := hol
          have hob : Hid (bs (bt (octP s[i].toNat 3)) = octP s[i].toNat 3) := rfl
          generalize bt (octP s[i].toNat 3) = x at *
          clear hI hol
          go_wp2_with fail
          refine (unhide HW).mono ?_
          rintro e w3 ⟨rfl, hI3, b3⟩
          have B3 := hide ((unhide hB).trans b3)
          have HI3 := hide hI3
          have HO3 := hide (unhide HO w3 (unhide B3))
          clear HW b3 hI3 hB
          go_wp2_with fail
          refine (unhide HO3).mono ?_
          rintro e w4 ⟨rfl, b4⟩
          have B4 := hide ((unhide B3).trans (b4.mono (unhide B3).size))
          have H5 := hide (ws_any w.heap.size w.heap.size _ x w4 (isB_below (unhide HI3) b4) (by rw [List.length_append]; simp; omega) (unhide B4).size)
          clear HO3 b4 HI3 B3
          go_wp2_with fail
          refine (unhide H5).mono ?_
          rintro e w5 ⟨rfl, hI5, b5⟩
          have B5 := hide ((unhide B4).trans b5)
          rw [unhide hob, ← unhide hst] at hI5
          have HI5 := hide hI5
          clear H5 b5 hI5 B4
          go_wp2_with fail
          go_roundw
          case rel => exact ⟨i + 1, by go_num, by omega, by omega, HI5, B5⟩
          case measure => simp [intOf]; omega
        · obtain rfl : i = min (f + 16) s.size := by omega
          have hmin : ((min (f + 16) s.size : Nat) : Int) = min ((f : Int) + 16) (s.size : Int) := by omega
          have HW : Hid (Calls Tryd.prog 73 #[.pointer (some ⟨w.heap.size, 0, none⟩), .int .u8 10] wr fun e w' => e = .returned .nilIface ∧ IsB w.heap.size w.heap.size (lineTo (bs s) (min (f + 16) s.size)) w' ∧ Below w.heap.size wr w') := by
            rw [← midTo_end (bs s) f _ (show f < min (f + 16) s.size by omega)]
            exact wb_any w.heap.size w.heap.size _ 10 wr (unhide hI) (by omega) hsz
          generalize hie : min (f + 16) s.size = i at *
          have HIE := hide hie
          clear hie
          clear hI
          go_wp2_with fail
          refine (unhide HW).mono ?_
          rintro e w3 ⟨rfl, hI3, b3⟩
          have B3 := hide ((unhide hB).trans b3)
          have HI3 := hide hI3
          clear HW b3 hI3 hB
          go_wp2_with fail
          go_roundw
          case rel => exact ⟨f + 16, by go_num, by omega, by omega, by rw [unhide HIE]; exact HI3, B3⟩
          case measure => simp [intOf]; omega
    · rw [show min f s.size = s.size by omega] at hI
      have HO := hide (octal_any s.size 7 wr (by omega) (by omega) (hT.below (unhide hB)))
      have hol := octP_len s.size 7 (by omega)
      have hll := lineTo_len (bs s) s.size (by omega)
      have hol' : (bt (octP s.size 7)).size ≤ 28 := hol
      have hob : Hid (bs (bt (octP s.size 7)) = octP s.size 7) := rfl
      generalize bt (octP s.size 7) = x at *
      go_wp2_with fail
      refine (unhide HO).mono ?_
      rintro e w1 ⟨rfl, b1⟩
      have B1 := hide ((unhide hB).trans (b1.mono hsz))
      have H1 := hide (ws_any w.heap.size w.heap.size _ x w1 (isB_below (unhide hI) b1) (by omega) (unhide B1).size)
      clear HO b1 hI hB
      go_wp2_with fail
      refine (unhide H1).mono ?_
      rintro e w2 ⟨rfl, hI2, b2⟩
      have B2 := hide ((unhide B1).trans b2)
      rw [unhide hob] at hI2
      have H2 : Hid (Calls Tryd.prog 73 #[.pointer (some ⟨w.heap.size, 0, none⟩), .int .u8 10] w2 fun e w' => e = .returned .nilIface ∧ IsB w.heap.size w.heap.size (dumpP (bs s)) w' ∧ Below w.heap.size w2 w') := by
        rw [unhide HP]
        exact wb_any w.heap.size w.heap.size _ 10 w2 hI2 (by rw [List.length_append]; omega) (unhide B2).size
      clear H1 b2 hI2 B1
      go_wp2_with fail
      refine (unhide H2).mono ?_
      rintro e w3 ⟨rfl, hI3, b3⟩
      have B3 := hide ((unhide B2).trans b3)
      have H3 := hide (str_any w.heap.size w.heap.size _ w3 hI3 (unhide B3).size)
      clear H2 b3 hI3 B2
      go_wp2_with fail
      refine (unhide H3).mono ?_
      rintro e w4 ⟨rfl, b4⟩
      have B4 := hide ((unhide B3).trans b4)
      clear H3 b4 B3
      go_wp2_with fail
      go_ret
      exact ⟨rfl, unhide B4⟩
end Go.Proofs.YtjkajhnnoecjbaaDoor.Vw
