/- What Cmp answers. -/
import Derived.Test.YtjkajhnnoecjbaaDoorVwPlain
import Derived.Test.YtjkajhnnoecjbaaDoorVwShelf
import Derived.OwnWalk
set_option linter.unusedVariables false
namespace Go.Proofs.YtjkajhnnoecjbaaDoor.Vw
open Go.RowKit Go.Shelf Cu

theorem get_bs (a : ByteArray) (n : Nat) (h : n < a.size) : (bs a)[n]'h = a[n] := rfl

set_option maxHeartbeats 400000 in
theorem alike_any (a b : ByteArray) (w : World) (ha : a.size ≤ 1073741824) (hb : b.size ≤ 1073741824) :
    Calls Tryd.prog 104 #[.string a, .string b] w fun e w' => e = .returned (.int .i64 (alikeN (bs a) (bs b))) ∧ Below w.heap.size w w' := by
  have hla : (bs a).length = a.size := rfl
  have hlb : (bs b).length = b.size := rfl
  go_enter Tryd.func104, Tryd.ntmps104
  go_wp2_with fail
  go_loopw [5] (fun v3 wr => ∃ n : Nat, v3 = .int .i64 n ∧ n ≤ a.size ∧ Hid (alikeN (bs a) (bs b) = n + alikeN ((bs a).drop n) ((bs b).drop n)) ∧ Hid (Below w.heap.size w wr)) (fun v3 _ => a.size - (intOf v3).toNat)
  case atStart => exact ⟨0, rfl, Nat.zero_le _, by show _ = _; simp, Below.refl _ _⟩
  case round =>
    obtain ⟨n, rfl, hn, hinv, hbl⟩ := hrel
    by_cases h1 : n < a.size
    · have h1' : (n : Int) < (a.size : Int) := by omega
      by_cases h2 : n < b.size
      · have h2' : (n : Int) < (b.size : Int) := by omega
        by_cases he : (a[n].toNat : Int) = (b[n].toNat : Int)
        · have hs := hide (alikeN_step _ _ n (unhide hinv) h1 h2 (u8_eq he))
          clear hinv
          go_wp2_with fail
          go_quiet (fail)
          go_wp2_with fail
          go_roundw
          case rel => exact ⟨n + 1, by go_num, by omega, hs, below_drewN (unhide hbl) _⟩
          case measure => simp [intOf]; omega
        · have hs := alikeN_stop _ _ n (unhide hinv) h1 h2 (u8_ne he)
          have hs := hide hs
          clear hinv
          go_wp2_with fail
          go_quiet (fail)
          go_wp2_with fail
          go_ret
          exact ⟨by rw [unhide hs]; rfl, below_drewN (unhide hbl) _⟩
      · have hs := alikeN_out _ _ n (unhide hinv) (.inr (by omega))
        have hs := hide hs
        clear hinv
        go_wp2_with fail
        go_quiet (fail)
        go_wp2_with fail
        go_ret
        exact ⟨by rw [unhide hs]; rfl, below_drewN (unhide hbl) _⟩
    · have hs := alikeN_out _ _ n (unhide hinv) (.inl (by omega))
      have hs := hide hs
      clear hinv
      go_wp2_with fail
      go_quiet (fail)
      go_wp2_with fail
      go_ret
      exact ⟨by rw [unhide hs]; rfl, below_drewN (unhide hbl) _⟩

set_option maxHeartbeats 400000 in
theorem cmp_any (a b : ByteArray) (w : World) (ha : a.size ≤ 1073741824) (hb : b.size ≤ 1073741824) :
    Calls Tryd.prog 64 #[.string a, .string b] w fun e w' => e = .returned (cmpV (cmpP (bs a) (bs b))) ∧ Below w.heap.size w w' := by
  have hla : (bs a).length = a.size := rfl
  have hlb : (bs b).length = b.size := rfl
  have HA := hide (alike_any a b w ha hb)
  obtain ⟨n1, n2⟩ := alikeN_le (bs a) (bs b)
  have HC : Hid (∀ W, Calls Tryd.prog 105 #[.string (a.extract 0 (alikeN (bs a) (bs b))), .string { data := #[10] }] W fun e w' => e = .returned (.int .i64 (((bs a).take (alikeN (bs a) (bs b))).count 10 : Nat)) ∧ w' = W) := fun W => by
    have := Tryd.strings_Count_one (a.extract 0 (alikeN (bs a) (bs b))) 10 W
    rw [show (a.extract 0 (alikeN (bs a) (bs b))).data.toList = (bs a).take (alikeN (bs a) (bs b)) from bs_to _ _] at this
    exact this
  have hcl := count_le (bs a) (alikeN (bs a) (bs b))
  have hp : Hid (cmpP (bs a) (bs b) = if alikeN (bs a) (bs b) < a.size ∧ alikeN (bs a) (bs b) < b.size then (alikeN (bs a) (bs b) + 1, ((bs a).take (alikeN (bs a) (bs b))).count 10 + 1, 0)
      else if alikeN (bs a) (bs b) < b.size then (0, 0, 1) else if alikeN (bs a) (bs b) < a.size then (0, 0, 2) else (0, 0, 0)) := rfl
  rw [hla] at n1
  rw [hlb] at n2
  generalize cmpP (bs a) (bs b) = p at *
  generalize alikeN (bs a) (bs b) = n at *
  generalize ((bs a).take n).count 10 = c at *
  clear hla hlb
  go_enter Tryd.func64, Tryd.ntmps64
  go_wp2_with fail
  refine (unhide HA).mono ?_
  rintro e w1 ⟨rfl, hb1⟩
  have HB := hide hb1
  clear HA hb1
  by_cases h1 : n < a.size
  · have h1' : (n : Int) < (a.size : Int) := by omega
    by_cases h2 : n < b.size
    · have h2' : (n : Int) < (b.size : Int) := by omega
      have hp' := hide ((unhide hp).trans (if_pos ⟨h1, h2⟩))
      clear hp
      go_wp2_with fail
      refine (unhide HC _).mono ?_
      rintro e w' ⟨rfl, rfl⟩
      go_wp2_with fail
      go_ret3
      refine ⟨?_, unhide HB⟩
      rw [unhide hp']
      unfold cmpV
      go_num
    · have h2' : ¬ (n : Int) < (b.size : Int) := by omega
      have hp' : Hid (p = (0, 0, 2)) := by show _ = _; rw [unhide hp, if_neg (by omega), if_neg h2, if_pos h1]
      clear hp
      go_wp2_with fail
      go_ret3
      refine ⟨?_, unhide HB⟩
      rw [unhide hp']
      rfl
  · have h1' : ¬ (n : Int) < (a.size : Int) := by omega
    by_cases h2 : n < b.size
    · have h2' : (n : Int) < (b.size : Int) := by omega
      have hp' : Hid (p = (0, 0, 1)) := by show _ = _; rw [unhide hp, if_neg (by omega), if_pos h2]
      clear hp
      go_wp2_with fail
      go_ret3
      refine ⟨?_, unhide HB⟩
      rw [unhide hp']
      rfl
    · have h2' : ¬ (n : Int) < (b.size : Int) := by omega
      have hp' : Hid (p = (0, 0, 0)) := by show _ = _; rw [unhide hp, if_neg (by omega), if_neg h2, if_neg h1]
      clear hp
      go_wp2_with fail
      go_ret3
      refine ⟨?_, unhide HB⟩
      rw [unhide hp']
      rfl
end Go.Proofs.YtjkajhnnoecjbaaDoor.Vw
