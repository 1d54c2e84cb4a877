/- What word, markText, isText, markFlag and isFlag answer of a small number. -/
import Derived.Test.YtbofidpoajdcmaaGreatDoorRows
import Derived.Test.YtbofidpoajdcmaaGreatDoorBookPlain
import Derived.WalkSpells
import Derived.WalkLawsBesides
import Derived.Deep.QuietTactic
import Derived.BigQuiet
namespace Go.Proofs.YtbofidpoajdcmaaGreatDoor.Bk
open Go.RowKit

def dg36 : ByteArray := { data := #[48, 49, 50, 51, 52, 53, 54, 55, 56, 57, 97, 98, 99, 100, 101, 102, 103, 104, 105, 106, 107, 108, 109, 110, 111, 112, 113, 114, 115, 116, 117, 118, 119, 120, 121, 122] }
def sm200 : ByteArray := { data := #[48, 48, 48, 49, 48, 50, 48, 51, 48, 52, 48, 53, 48, 54, 48, 55, 48, 56, 48, 57, 49, 48, 49, 49, 49, 50, 49, 51, 49, 52, 49, 53, 49, 54, 49, 55, 49, 56, 49, 57, 50, 48, 50, 49, 50, 50, 50, 51, 50, 52, 50, 53, 50, 54, 50, 55, 50, 56, 50, 57, 51, 48, 51, 49, 51, 50, 51, 51, 51, 52, 51, 53, 51, 54, 51, 55, 51, 56, 51, 57, 52, 48, 52, 49, 52, 50, 52, 51, 52, 52, 52, 53, 52, 54, 52, 55, 52, 56, 52, 57, 53, 48, 53, 49, 53, 50, 53, 51, 53, 52, 53, 53, 53, 54, 53, 55, 53, 56, 53, 57, 54, 48, 54, 49, 54, 50, 54, 51, 54, 52, 54, 53, 54, 54, 54, 55, 54, 56, 54, 57, 55, 48, 55, 49, 55, 50, 55, 51, 55, 52, 55, 53, 55, 54, 55, 55, 55, 56, 55, 57, 56, 48, 56, 49, 56, 50, 56, 51, 56, 52, 56, 53, 56, 54, 56, 55, 56, 56, 56, 57, 57, 48, 57, 49, 57, 50, 57, 51, 57, 52, 57, 53, 57, 54, 57, 55, 57, 56, 57, 57] }
/-- the mark m as a text -/
def wd (m : Nat) : ByteArray := if m < 10 then { data := #[35] } ++ dg36.extract m (m + 1) else { data := #[35] } ++ sm200.extract (m * 2) (m * 2 + 2)

set_option maxHeartbeats 400000 in
set_option maxRecDepth 100000 in
theorem word_any (m : Nat) (w : World) (h : m < 100) :
    Calls Tryz.prog 140 #[.int .i64 m] w fun e w' => e = .returned (.string (wd m)) ∧ w' = w := by
  have h0 : (m : Int) < 100 := by omega
  by_cases h1 : m < 10
  · have h1' : (m : Int) < 10 := by omega
    have hw : wd m = { data := #[35] } ++ dg36.extract m (m + 1) := if_pos h1
    rw [hw]
    clear hw h1
    go_enter Tryz.func140, Tryz.ntmps140
    go_wp2
    go_ret
    exact ⟨rfl, rfl⟩
  · have h1' : ¬ (m : Int) < 10 := by omega
    have hw : wd m = { data := #[35] } ++ sm200.extract (m * 2) (m * 2 + 2) := if_neg h1
    rw [hw]
    clear hw h1
    go_enter Tryz.func140, Tryz.ntmps140
    go_wp2
    go_ret
    exact ⟨rfl, rfl⟩

set_option maxHeartbeats 400000 in
theorem markText_any (m : Nat) (w : World) (h : m < 100) :
    Calls Tryz.prog 100 #[.int .i64 m] w fun e w' => e = .returned (.string (wd m)) ∧ w' = w := by
  go_enter Tryz.func100, Tryz.ntmps100
  go_wp2_with fail
  refine (word_any m _ h).mono ?_
  rintro e w' ⟨rfl, rfl⟩
  go_wp2_with fail
  go_ret
  exact ⟨rfl, rfl⟩

set_option maxHeartbeats 400000 in
theorem isText_any (m : Nat) (w : World) (h : m < 100) :
    Calls Tryz.prog 112 #[.string (wd m), .int .i64 m] w fun e w' => e = .returned (.bool true) ∧ w' = w := by
  obtain ⟨x, hx⟩ : ∃ x, wd m = x := ⟨_, rfl⟩
  have HX := hide hx
  rw [hx]
  clear hx
  go_enter Tryz.func112, Tryz.ntmps112
  go_wp2_with fail
  refine (word_any m _ h).mono ?_
  rintro e w' ⟨rfl, rfl⟩
  rw [unhide HX]
  go_wp2_with fail
  go_ret
  exact ⟨rfl, rfl⟩

set_option maxHeartbeats 400000 in
theorem markFlag_any (m : Nat) (w : World) (h : m < 100) :
    Calls Tryz.prog 103 #[.int .i64 m] w fun e w' => e = .returned (.agg #[.int .u8 0, .string (wd m)]) ∧ Below w.heap.size w w' := by
  obtain ⟨x, hx⟩ : ∃ x, wd m = x := ⟨_, rfl⟩
  have HX := hide hx
  rw [hx]
  clear hx
  go_enter Tryz.func103, Tryz.ntmps103
  go_wp2_with fail
  refine (word_any m _ h).mono ?_
  rintro e w' ⟨rfl, rfl⟩
  rw [unhide HX]
  go_wp2_with fail
  exact bodyPost_ret (v := .agg #[.int .u8 0, .string x]) (by simp [results, Tryz.results103, go_sem]) rfl ⟨rfl, (Below.refl _ _).alloc (Nat.le_refl _) _⟩

set_option maxHeartbeats 400000 in
theorem isFlag_any (m : Nat) (w : World) (h : m < 100) :
    Calls Tryz.prog 115 #[.agg #[.int .u8 0, .string (wd m)], .int .i64 m] w fun e w' => e = .returned (.bool true) ∧ Below w.heap.size w w' := by
  obtain ⟨x, hx⟩ : ∃ x, wd m = x := ⟨_, rfl⟩
  have HX := hide hx
  rw [hx]
  clear hx
  have hxx : (x.toList == x.toList) = true := by simp
  have hwd : ∀ w, Calls Tryz.prog 140 #[.int .i64 m] w fun e w' => e = .returned (.string x) ∧ w' = w := fun w => unhide HX ▸ word_any m w h
  have HWD := hide hwd
  clear hwd HX
  go_enter Tryz.func115, Tryz.ntmps115
  go_wp2_with fail
  go_quiet ((go_at_call 140; exact Calls.quiet_of_same (unhide HWD _)))
  go_wp2_with fail
  go_ret
  exact ⟨rfl, below_drewN ((Below.refl _ _).alloc (Nat.le_refl _) _) _⟩
end Go.Proofs.YtbofidpoajdcmaaGreatDoor.Bk
