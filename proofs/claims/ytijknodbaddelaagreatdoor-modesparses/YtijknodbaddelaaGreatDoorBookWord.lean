/- What word, markText, isText, markFlag and isFlag answer of a small number. -/
import Derived.Test.YtijknodbaddelaaGreatDoorRows
import Derived.Test.YtijknodbaddelaaGreatDoorBookPlain
import Derived.WalkSpells
import Derived.WalkLawsBesides
import Derived.Deep.QuietTactic
import Derived.BigQuiet
namespace Go.Proofs.YtijknodbaddelaaGreatDoor.Bk
open Go.RowKit

def dg36 : ByteArray := { data := #[48, 49, 50, 51, 52, 53, 54, 55, 56, 57, 97, 98, 99, 100, 101, 102, 103, 104, 105, 106, 107, 108, 109, 110, 111, 112, 113, 114, 115, 116, 117, 118, 119, 120, 121, 122] }
/-- the mark m as a text -/
def wd (m : Nat) : ByteArray := { data := #[35] } ++ dg36.extract m (m + 1)

set_option maxHeartbeats 400000 in
set_option maxRecDepth 100000 in
theorem word_any (m : Nat) (w : World) (h : m < 10) :
    Calls Tryz.prog 87 #[.int .i64 m] w fun e w' => e = .returned (.string (wd m)) ∧ w' = w := by
  have h1 : (m : Int) < 10 := by omega
  go_enter Tryz.func87, Tryz.ntmps87
  go_wp2
  go_ret
  exact ⟨rfl, rfl⟩

set_option maxHeartbeats 400000 in
theorem markText_any (m : Nat) (w : World) (h : m < 10) :
    Calls Tryz.prog 61 #[.int .i64 m] w fun e w' => e = .returned (.string (wd m)) ∧ w' = w := by
  go_enter Tryz.func61, Tryz.ntmps61
  go_wp2_with fail
  refine (word_any m _ h).mono ?_
  rintro e w' ⟨rfl, rfl⟩
  go_wp2_with fail
  go_ret
  exact ⟨rfl, rfl⟩

set_option maxHeartbeats 400000 in
theorem isText_any (m : Nat) (w : World) (h : m < 10) :
    Calls Tryz.prog 73 #[.string (wd m), .int .i64 m] w fun e w' => e = .returned (.bool true) ∧ w' = w := by
  obtain ⟨x, hx⟩ : ∃ x, wd m = x := ⟨_, rfl⟩
  have HX := hide hx
  rw [hx]
  clear hx
  go_enter Tryz.func73, Tryz.ntmps73
  go_wp2_with fail
  refine (word_any m _ h).mono ?_
  rintro e w' ⟨rfl, rfl⟩
  rw [unhide HX]
  go_wp2_with fail
  go_ret
  exact ⟨rfl, rfl⟩

set_option maxHeartbeats 400000 in
theorem markFlag_any (m : Nat) (w : World) (h : m < 10) :
    Calls Tryz.prog 64 #[.int .i64 m] w fun e w' => e = .returned (.agg #[.int .u8 0, .string (wd m)]) ∧ Below w.heap.size w w' := by
  obtain ⟨x, hx⟩ : ∃ x, wd m = x := ⟨_, rfl⟩
  have HX := hide hx
  rw [hx]
  clear hx
  go_enter Tryz.func64, Tryz.ntmps64
  go_wp2_with fail
  refine (word_any m _ h).mono ?_
  rintro e w' ⟨rfl, rfl⟩
  rw [unhide HX]
  go_wp2_with fail
  exact bodyPost_ret (v := .agg #[.int .u8 0, .string x]) (by simp [results, Tryz.results64, go_sem]) rfl ⟨rfl, (Below.refl _ _).alloc (Nat.le_refl _) _⟩

set_option maxHeartbeats 400000 in
theorem isFlag_any (m : Nat) (w : World) (h : m < 10) :
    Calls Tryz.prog 76 #[.agg #[.int .u8 0, .string (wd m)], .int .i64 m] w fun e w' => e = .returned (.bool true) ∧ Below w.heap.size w w' := by
  obtain ⟨x, hx⟩ : ∃ x, wd m = x := ⟨_, rfl⟩
  have HX := hide hx
  rw [hx]
  clear hx
  have hxx : (x.toList == x.toList) = true := by simp
  have hwd : ∀ w, Calls Tryz.prog 87 #[.int .i64 m] w fun e w' => e = .returned (.string x) ∧ w' = w := fun w => unhide HX ▸ word_any m w h
  have HWD := hide hwd
  clear hwd HX
  go_enter Tryz.func76, Tryz.ntmps76
  go_wp2_with fail
  go_quiet ((go_at_call 87; exact Calls.quiet_of_same (unhide HWD _)))
  go_wp2_with fail
  go_ret
  exact ⟨rfl, below_drewN ((Below.refl _ _).alloc (Nat.le_refl _) _) _⟩
end Go.Proofs.YtijknodbaddelaaGreatDoor.Bk
