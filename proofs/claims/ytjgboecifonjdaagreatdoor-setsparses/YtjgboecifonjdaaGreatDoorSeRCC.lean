/- What the document's Class answers. -/
import Derived.Test.YtjgboecifonjdaaGreatDoorSeFacts
import Derived.WalkSpells
import Derived.BigQuiet
namespace Go.Proofs.YtjgboecifonjdaaGreatDoor.Se
open Go.RowKit

theorem rc7_0n : ∀ n, n < 256 → 0 ≤ n → n ≤ 31 → clsAt 7 (UInt8.ofNat n) = false := by decide +kernel
theorem rc7_1n : ∀ n, n < 256 → 32 ≤ n → n ≤ 47 → clsAt 7 (UInt8.ofNat n) = true := by decide +kernel
theorem rc7_2n : ∀ n, n < 256 → 48 ≤ n → n ≤ 57 → clsAt 7 (UInt8.ofNat n) = true := by decide +kernel
theorem rc7_3n : ∀ n, n < 256 → 58 ≤ n → n ≤ 64 → clsAt 7 (UInt8.ofNat n) = true := by decide +kernel
theorem rc7_4n : ∀ n, n < 256 → 65 ≤ n → n ≤ 90 → clsAt 7 (UInt8.ofNat n) = true := by decide +kernel
theorem rc7_5n : ∀ n, n < 256 → 91 ≤ n → n ≤ 96 → clsAt 7 (UInt8.ofNat n) = true := by decide +kernel
theorem rc7_6n : ∀ n, n < 256 → 97 ≤ n → n ≤ 122 → clsAt 7 (UInt8.ofNat n) = true := by decide +kernel
theorem rc7_7n : ∀ n, n < 256 → 123 ≤ n → n ≤ 126 → clsAt 7 (UInt8.ofNat n) = true := by decide +kernel
theorem rc7_8n : ∀ n, n < 256 → 127 ≤ n → n ≤ 255 → clsAt 7 (UInt8.ofNat n) = false := by decide +kernel
set_option maxHeartbeats 4000000 in
set_option maxRecDepth 100000 in
theorem refClass7 (c : UInt8) (w : World) :
    Calls Tryz.prog 13 #[.string { data := #[112, 114, 105, 110, 116] }, .int .u8 c.toNat] w fun e w' => e = .returned (.tuple #[.bool (clsAt 7 c), .bool true]) ∧ w' = w := by
  have h255 : c.toNat ≤ 255 := by have := c.toNat_lt; omega
  rcases (show (0 ≤ c.toNat ∧ c.toNat ≤ 31) ∨ (32 ≤ c.toNat ∧ c.toNat ≤ 47) ∨ (48 ≤ c.toNat ∧ c.toNat ≤ 57) ∨ (58 ≤ c.toNat ∧ c.toNat ≤ 64) ∨ (65 ≤ c.toNat ∧ c.toNat ≤ 90) ∨ (91 ≤ c.toNat ∧ c.toNat ≤ 96) ∨ (97 ≤ c.toNat ∧ c.toNat ≤ 122) ∨ (123 ≤ c.toNat ∧ c.toNat ≤ 126) ∨ (127 ≤ c.toNat ∧ c.toNat ≤ 255) from by omega) with ⟨r0, r1⟩ | ⟨r0, r1⟩ | ⟨r0, r1⟩ | ⟨r0, r1⟩ | ⟨r0, r1⟩ | ⟨r0, r1⟩ | ⟨r0, r1⟩ | ⟨r0, r1⟩ | ⟨r0, r1⟩
  · have hv : Hid (clsAt 7 c = false) := by
      have := rc7_0n c.toNat c.toNat_lt r0 r1
      rwa [UInt8.ofNat_toNat] at this
    have f0 : ¬ (97 : Int) ≤ (c.toNat : Int) := by omega
    have f1 : (c.toNat : Int) ≤ 122 := by omega
    have f2 : ¬ (65 : Int) ≤ (c.toNat : Int) := by omega
    have f3 : (c.toNat : Int) ≤ 90 := by omega
    have f4 : ¬ (48 : Int) ≤ (c.toNat : Int) := by omega
    have f5 : (c.toNat : Int) ≤ 57 := by omega
    have f6 : ¬ (32 : Int) ≤ (c.toNat : Int) := by omega
    have f7 : (c.toNat : Int) < 127 := by omega
    clear r0 r1 h255
    go_enter Tryz.func13, Tryz.ntmps13
    go_wp2_with fail
    go_ret2
    exact ⟨by rw [unhide hv]; rfl, rfl⟩
  · have hv : Hid (clsAt 7 c = true) := by
      have := rc7_1n c.toNat c.toNat_lt r0 r1
      rwa [UInt8.ofNat_toNat] at this
    have f0 : ¬ (97 : Int) ≤ (c.toNat : Int) := by omega
    have f1 : (c.toNat : Int) ≤ 122 := by omega
    have f2 : ¬ (65 : Int) ≤ (c.toNat : Int) := by omega
    have f3 : (c.toNat : Int) ≤ 90 := by omega
    have f4 : ¬ (48 : Int) ≤ (c.toNat : Int) := by omega
    have f5 : (c.toNat : Int) ≤ 57 := by omega
    have f6 : (32 : Int) ≤ (c.toNat : Int) := by omega
    have f7 : (c.toNat : Int) < 127 := by omega
    clear r0 r1 h255
    go_enter Tryz.func13, Tryz.ntmps13
    go_wp2_with fail
    go_ret2
    exact ⟨by rw [unhide hv]; rfl, rfl⟩
  · have hv : Hid (clsAt 7 c = true) := by
      have := rc7_2n c.toNat c.toNat_lt r0 r1
      rwa [UInt8.ofNat_toNat] at this
    have f0 : ¬ (97 : Int) ≤ (c.toNat : Int) := by omega
    have f1 : (c.toNat : Int) ≤ 122 := by omega
    have f2 : ¬ (65 : Int) ≤ (c.toNat : Int) := by omega
    have f3 : (c.toNat : Int) ≤ 90 := by omega
    have f4 : (48 : Int) ≤ (c.toNat : Int) := by omega
    have f5 : (c.toNat : Int) ≤ 57 := by omega
    have f6 : (32 : Int) ≤ (c.toNat : Int) := by omega
    have f7 : (c.toNat : Int) < 127 := by omega
    clear r0 r1 h255
    go_enter Tryz.func13, Tryz.ntmps13
    go_wp2_with fail
    go_ret2
    exact ⟨by rw [unhide hv]; rfl, rfl⟩
  · have hv : Hid (clsAt 7 c = true) := by
      have := rc7_3n c.toNat c.toNat_lt r0 r1
      rwa [UInt8.ofNat_toNat] at this
    have f0 : ¬ (97 : Int) ≤ (c.toNat : Int) := by omega
    have f1 : (c.toNat : Int) ≤ 122 := by omega
    have f2 : ¬ (65 : Int) ≤ (c.toNat : Int) := by omega
    have f3 : (c.toNat : Int) ≤ 90 := by omega
    have f4 : (48 : Int) ≤ (c.toNat : Int) := by omega
    have f5 : ¬ (c.toNat : Int) ≤ 57 := by omega
    have f6 : (32 : Int) ≤ (c.toNat : Int) := by omega
    have f7 : (c.toNat : Int) < 127 := by omega
    clear r0 r1 h255
    go_enter Tryz.func13, Tryz.ntmps13
    go_wp2_with fail
    go_ret2
    exact ⟨by rw [unhide hv]; rfl, rfl⟩
  · have hv : Hid (clsAt 7 c = true) := by
      have := rc7_4n c.toNat c.toNat_lt r0 r1
      rwa [UInt8.ofNat_toNat] at this
    have f0 : ¬ (97 : Int) ≤ (c.toNat : Int) := by omega
    have f1 : (c.toNat : Int) ≤ 122 := by omega
    have f2 : (65 : Int) ≤ (c.toNat : Int) := by omega
    have f3 : (c.toNat : Int) ≤ 90 := by omega
    have f4 : (48 : Int) ≤ (c.toNat : Int) := by omega
    have f5 : ¬ (c.toNat : Int) ≤ 57 := by omega
    have f6 : (32 : Int) ≤ (c.toNat : Int) := by omega
    have f7 : (c.toNat : Int) < 127 := by omega
    clear r0 r1 h255
    go_enter Tryz.func13, Tryz.ntmps13
    go_wp2_with fail
    go_ret2
    exact ⟨by rw [unhide hv]; rfl, rfl⟩
  · have hv : Hid (clsAt 7 c = true) := by
      have := rc7_5n c.toNat c.toNat_lt r0 r1
      rwa [UInt8.ofNat_toNat] at this
    have f0 : ¬ (97 : Int) ≤ (c.toNat : Int) := by omega
    have f1 : (c.toNat : Int) ≤ 122 := by omega
    have f2 : (65 : Int) ≤ (c.toNat : Int) := by omega
    have f3 : ¬ (c.toNat : Int) ≤ 90 := by omega
    have f4 : (48 : Int) ≤ (c.toNat : Int) := by omega
    have f5 : ¬ (c.toNat : Int) ≤ 57 := by omega
    have f6 : (32 : Int) ≤ (c.toNat : Int) := by omega
    have f7 : (c.toNat : Int) < 127 := by omega
    clear r0 r1 h255
    go_enter Tryz.func13, Tryz.ntmps13
    go_wp2_with fail
    go_ret2
    exact ⟨by rw [unhide hv]; rfl, rfl⟩
  · have hv : Hid (clsAt 7 c = true) := by
      have := rc7_6n c.toNat c.toNat_lt r0 r1
      rwa [UInt8.ofNat_toNat] at this
    have f0 : (97 : Int) ≤ (c.toNat : Int) := by omega
    have f1 : (c.toNat : Int) ≤ 122 := by omega
    have f2 : (65 : Int) ≤ (c.toNat : Int) := by omega
    have f3 : ¬ (c.toNat : Int) ≤ 90 := by omega
    have f4 : (48 : Int) ≤ (c.toNat : Int) := by omega
    have f5 : ¬ (c.toNat : Int) ≤ 57 := by omega
    have f6 : (32 : Int) ≤ (c.toNat : Int) := by omega
    have f7 : (c.toNat : Int) < 127 := by omega
    clear r0 r1 h255
    go_enter Tryz.func13, Tryz.ntmps13
    go_wp2_with fail
    go_ret2
    exact ⟨by rw [unhide hv]; rfl, rfl⟩
  · have hv : Hid (clsAt 7 c = true) := by
      have := rc7_7n c.toNat c.toNat_lt r0 r1
      rwa [UInt8.ofNat_toNat] at this
    have f0 : (97 : Int) ≤ (c.toNat : Int) := by omega
    have f1 : ¬ (c.toNat : Int) ≤ 122 := by omega
    have f2 : (65 : Int) ≤ (c.toNat : Int) := by omega
    have f3 : ¬ (c.toNat : Int) ≤ 90 := by omega
    have f4 : (48 : Int) ≤ (c.toNat : Int) := by omega
    have f5 : ¬ (c.toNat : Int) ≤ 57 := by omega
    have f6 : (32 : Int) ≤ (c.toNat : Int) := by omega
    have f7 : (c.toNat : Int) < 127 := by omega
    clear r0 r1 h255
    go_enter Tryz.func13, Tryz.ntmps13
    go_wp2_with fail
    go_ret2
    exact ⟨by rw [unhide hv]; rfl, rfl⟩
  · have hv : Hid (clsAt 7 c = false) := by
      have := rc7_8n c.toNat c.toNat_lt r0 r1
      rwa [UInt8.ofNat_toNat] at this
    have f0 : (97 : Int) ≤ (c.toNat : Int) := by omega
    have f1 : ¬ (c.toNat : Int) ≤ 122 := by omega
    have f2 : (65 : Int) ≤ (c.toNat : Int) := by omega
    have f3 : ¬ (c.toNat : Int) ≤ 90 := by omega
    have f4 : (48 : Int) ≤ (c.toNat : Int) := by omega
    have f5 : ¬ (c.toNat : Int) ≤ 57 := by omega
    have f6 : (32 : Int) ≤ (c.toNat : Int) := by omega
    have f7 : ¬ (c.toNat : Int) < 127 := by omega
    clear r0 r1 h255
    go_enter Tryz.func13, Tryz.ntmps13
    go_wp2_with fail
    go_ret2
    exact ⟨by rw [unhide hv]; rfl, rfl⟩
theorem rc8_0n : ∀ n, n < 256 → 0 ≤ n → n ≤ 32 → clsAt 8 (UInt8.ofNat n) = false := by decide +kernel
theorem rc8_1n : ∀ n, n < 256 → 33 ≤ n → n ≤ 47 → clsAt 8 (UInt8.ofNat n) = true := by decide +kernel
theorem rc8_2n : ∀ n, n < 256 → 48 ≤ n → n ≤ 57 → clsAt 8 (UInt8.ofNat n) = false := by decide +kernel
theorem rc8_3n : ∀ n, n < 256 → 58 ≤ n → n ≤ 64 → clsAt 8 (UInt8.ofNat n) = true := by decide +kernel
theorem rc8_4n : ∀ n, n < 256 → 65 ≤ n → n ≤ 90 → clsAt 8 (UInt8.ofNat n) = false := by decide +kernel
theorem rc8_5n : ∀ n, n < 256 → 91 ≤ n → n ≤ 96 → clsAt 8 (UInt8.ofNat n) = true := by decide +kernel
theorem rc8_6n : ∀ n, n < 256 → 97 ≤ n → n ≤ 122 → clsAt 8 (UInt8.ofNat n) = false := by decide +kernel
theorem rc8_7n : ∀ n, n < 256 → 123 ≤ n → n ≤ 126 → clsAt 8 (UInt8.ofNat n) = true := by decide +kernel
theorem rc8_8n : ∀ n, n < 256 → 127 ≤ n → n ≤ 255 → clsAt 8 (UInt8.ofNat n) = false := by decide +kernel
set_option maxHeartbeats 4000000 in
set_option maxRecDepth 100000 in
theorem refClass8 (c : UInt8) (w : World) :
    Calls Tryz.prog 13 #[.string { data := #[112, 117, 110, 99, 116] }, .int .u8 c.toNat] w fun e w' => e = .returned (.tuple #[.bool (clsAt 8 c), .bool true]) ∧ w' = w := by
  have h255 : c.toNat ≤ 255 := by have := c.toNat_lt; omega
  rcases (show (0 ≤ c.toNat ∧ c.toNat ≤ 32) ∨ (33 ≤ c.toNat ∧ c.toNat ≤ 47) ∨ (48 ≤ c.toNat ∧ c.toNat ≤ 57) ∨ (58 ≤ c.toNat ∧ c.toNat ≤ 64) ∨ (65 ≤ c.toNat ∧ c.toNat ≤ 90) ∨ (91 ≤ c.toNat ∧ c.toNat ≤ 96) ∨ (97 ≤ c.toNat ∧ c.toNat ≤ 122) ∨ (123 ≤ c.toNat ∧ c.toNat ≤ 126) ∨ (127 ≤ c.toNat ∧ c.toNat ≤ 255) from by omega) with ⟨r0, r1⟩ | ⟨r0, r1⟩ | ⟨r0, r1⟩ | ⟨r0, r1⟩ | ⟨r0, r1⟩ | ⟨r0, r1⟩ | ⟨r0, r1⟩ | ⟨r0, r1⟩ | ⟨r0, r1⟩
  · have hv : Hid (clsAt 8 c = false) := by
      have := rc8_0n c.toNat c.toNat_lt r0 r1
      rwa [UInt8.ofNat_toNat] at this
    have f0 : ¬ (97 : Int) ≤ (c.toNat : Int) := by omega
    have f1 : (c.toNat : Int) ≤ 122 := by omega
    have f2 : ¬ (65 : Int) ≤ (c.toNat : Int) := by omega
    have f3 : (c.toNat : Int) ≤ 90 := by omega
    have f4 : ¬ (48 : Int) ≤ (c.toNat : Int) := by omega
    have f5 : (c.toNat : Int) ≤ 57 := by omega
    have f6 : ¬ (32 : Int) < (c.toNat : Int) := by omega
    have f7 : (c.toNat : Int) < 127 := by omega
    clear r0 r1 h255
    go_enter Tryz.func13, Tryz.ntmps13
    go_wp2_with fail
    go_ret2
    exact ⟨by rw [unhide hv]; rfl, rfl⟩
  · have hv : Hid (clsAt 8 c = true) := by
      have := rc8_1n c.toNat c.toNat_lt r0 r1
      rwa [UInt8.ofNat_toNat] at this
    have f0 : ¬ (97 : Int) ≤ (c.toNat : Int) := by omega
    have f1 : (c.toNat : Int) ≤ 122 := by omega
    have f2 : ¬ (65 : Int) ≤ (c.toNat : Int) := by omega
    have f3 : (c.toNat : Int) ≤ 90 := by omega
    have f4 : ¬ (48 : Int) ≤ (c.toNat : Int) := by omega
    have f5 : (c.toNat : Int) ≤ 57 := by omega
    have f6 : (32 : Int) < (c.toNat : Int) := by omega
    have f7 : (c.toNat : Int) < 127 := by omega
    clear r0 r1 h255
    go_enter Tryz.func13, Tryz.ntmps13
    go_wp2_with fail
    go_ret2
    exact ⟨by rw [unhide hv]; rfl, rfl⟩
  · have hv : Hid (clsAt 8 c = false) := by
      have := rc8_2n c.toNat c.toNat_lt r0 r1
      rwa [UInt8.ofNat_toNat] at this
    have f0 : ¬ (97 : Int) ≤ (c.toNat : Int) := by omega
    have f1 : (c.toNat : Int) ≤ 122 := by omega
    have f2 : ¬ (65 : Int) ≤ (c.toNat : Int) := by omega
    have f3 : (c.toNat : Int) ≤ 90 := by omega
    have f4 : (48 : Int) ≤ (c.toNat : Int) := by omega
    have f5 : (c.toNat : Int) ≤ 57 := by omega
    have f6 : (32 : Int) < (c.toNat : Int) := by omega
    have f7 : (c.toNat : Int) < 127 := by omega
    clear r0 r1 h255
    go_enter Tryz.func13, Tryz.ntmps13
    go_wp2_with fail
    go_ret2
    exact ⟨by rw [unhide hv]; rfl, rfl⟩
  · have hv : Hid (clsAt 8 c = true) := by
      have := rc8_3n c.toNat c.toNat_lt r0 r1
      rwa [UInt8.ofNat_toNat] at this
    have f0 : ¬ (97 : Int) ≤ (c.toNat : Int) := by omega
    have f1 : (c.toNat : Int) ≤ 122 := by omega
    have f2 : ¬ (65 : Int) ≤ (c.toNat : Int) := by omega
    have f3 : (c.toNat : Int) ≤ 90 := by omega
    have f4 : (48 : Int) ≤ (c.toNat : Int) := by omega
    have f5 : ¬ (c.toNat : Int) ≤ 57 := by omega
    have f6 : (32 : Int) < (c.toNat : Int) := by omega
    have f7 : (c.toNat : Int) < 127 := by omega
    clear r0 r1 h255
    go_enter Tryz.func13, Tryz.ntmps13
    go_wp2_with fail
    go_ret2
    exact ⟨by rw [unhide hv]; rfl, rfl⟩
  · have hv : Hid (clsAt 8 c = false) := by
      have := rc8_4n c.toNat c.toNat_lt r0 r1
      rwa [UInt8.ofNat_toNat] at this
    have f0 : ¬ (97 : Int) ≤ (c.toNat : Int) := by omega
    have f1 : (c.toNat : Int) ≤ 122 := by omega
    have f2 : (65 : Int) ≤ (c.toNat : Int) := by omega
    have f3 : (c.toNat : Int) ≤ 90 := by omega
    have f4 : (48 : Int) ≤ (c.toNat : Int) := by omega
    have f5 : ¬ (c.toNat : Int) ≤ 57 := by omega
    have f6 : (32 : Int) < (c.toNat : Int) := by omega
    have f7 : (c.toNat : Int) < 127 := by omega
    clear r0 r1 h255
    go_enter Tryz.func13, Tryz.ntmps13
    go_wp2_with fail
    go_ret2
    exact ⟨by rw [unhide hv]; rfl, rfl⟩
  · have hv : Hid (clsAt 8 c = true) := by
      have := rc8_5n c.toNat c.toNat_lt r0 r1
      rwa [UInt8.ofNat_toNat] at this
    have f0 : ¬ (97 : Int) ≤ (c.toNat : Int) := by omega
    have f1 : (c.toNat : Int) ≤ 122 := by omega
    have f2 : (65 : Int) ≤ (c.toNat : Int) := by omega
    have f3 : ¬ (c.toNat : Int) ≤ 90 := by omega
    have f4 : (48 : Int) ≤ (c.toNat : Int) := by omega
    have f5 : ¬ (c.toNat : Int) ≤ 57 := by omega
    have f6 : (32 : Int) < (c.toNat : Int) := by omega
    have f7 : (c.toNat : Int) < 127 := by omega
    clear r0 r1 h255
    go_enter Tryz.func13, Tryz.ntmps13
    go_wp2_with fail
    go_ret2
    exact ⟨by rw [unhide hv]; rfl, rfl⟩
  · have hv : Hid (clsAt 8 c = false) := by
      have := rc8_6n c.toNat c.toNat_lt r0 r1
      rwa [UInt8.ofNat_toNat] at this
    have f0 : (97 : Int) ≤ (c.toNat : Int) := by omega
    have f1 : (c.toNat : Int) ≤ 122 := by omega
    have f2 : (65 : Int) ≤ (c.toNat : Int) := by omega
    have f3 : ¬ (c.toNat : Int) ≤ 90 := by omega
    have f4 : (48 : Int) ≤ (c.toNat : Int) := by omega
    have f5 : ¬ (c.toNat : Int) ≤ 57 := by omega
    have f6 : (32 : Int) < (c.toNat : Int) := by omega
    have f7 : (c.toNat : Int) < 127 := by omega
    clear r0 r1 h255
    go_enter Tryz.func13, Tryz.ntmps13
    go_wp2_with fail
    go_ret2
    exact ⟨by rw [unhide hv]; rfl, rfl⟩
  · have hv : Hid (clsAt 8 c = true) := by
      have := rc8_7n c.toNat c.toNat_lt r0 r1
      rwa [UInt8.ofNat_toNat] at this
    have f0 : (97 : Int) ≤ (c.toNat : Int) := by omega
    have f1 : ¬ (c.toNat : Int) ≤ 122 := by omega
    have f2 : (65 : Int) ≤ (c.toNat : Int) := by omega
    have f3 : ¬ (c.toNat : Int) ≤ 90 := by omega
    have f4 : (48 : Int) ≤ (c.toNat : Int) := by omega
    have f5 : ¬ (c.toNat : Int) ≤ 57 := by omega
    have f6 : (32 : Int) < (c.toNat : Int) := by omega
    have f7 : (c.toNat : Int) < 127 := by omega
    clear r0 r1 h255
    go_enter Tryz.func13, Tryz.ntmps13
    go_wp2_with fail
    go_ret2
    exact ⟨by rw [unhide hv]; rfl, rfl⟩
  · have hv : Hid (clsAt 8 c = false) := by
      have := rc8_8n c.toNat c.toNat_lt r0 r1
      rwa [UInt8.ofNat_toNat] at this
    have f0 : (97 : Int) ≤ (c.toNat : Int) := by omega
    have f1 : ¬ (c.toNat : Int) ≤ 122 := by omega
    have f2 : (65 : Int) ≤ (c.toNat : Int) := by omega
    have f3 : ¬ (c.toNat : Int) ≤ 90 := by omega
    have f4 : (48 : Int) ≤ (c.toNat : Int) := by omega
    have f5 : ¬ (c.toNat : Int) ≤ 57 := by omega
    have f6 : (32 : Int) < (c.toNat : Int) := by omega
    have f7 : ¬ (c.toNat : Int) < 127 := by omega
    clear r0 r1 h255
    go_enter Tryz.func13, Tryz.ntmps13
    go_wp2_with fail
    go_ret2
    exact ⟨by rw [unhide hv]; rfl, rfl⟩
theorem rc9_0n : ∀ n, n < 256 → 0 ≤ n → n ≤ 8 → clsAt 9 (UInt8.ofNat n) = false := by decide +kernel
theorem rc9_1n : ∀ n, n < 256 → 9 ≤ n → n ≤ 13 → clsAt 9 (UInt8.ofNat n) = true := by decide +kernel
theorem rc9_2n : ∀ n, n < 256 → 14 ≤ n → n ≤ 31 → clsAt 9 (UInt8.ofNat n) = false := by decide +kernel
theorem rc9_3n : ∀ n, n < 256 → 32 ≤ n → n ≤ 32 → clsAt 9 (UInt8.ofNat n) = true := by decide +kernel
theorem rc9_4n : ∀ n, n < 256 → 33 ≤ n → n ≤ 47 → clsAt 9 (UInt8.ofNat n) = false := by decide +kernel
theorem rc9_5n : ∀ n, n < 256 → 48 ≤ n → n ≤ 57 → clsAt 9 (UInt8.ofNat n) = false := by decide +kernel
theorem rc9_6n : ∀ n, n < 256 → 58 ≤ n → n ≤ 64 → clsAt 9 (UInt8.ofNat n) = false := by decide +kernel
theorem rc9_7n : ∀ n, n < 256 → 65 ≤ n → n ≤ 90 → clsAt 9 (UInt8.ofNat n) = false := by decide +kernel
theorem rc9_8n : ∀ n, n < 256 → 91 ≤ n → n ≤ 96 → clsAt 9 (UInt8.ofNat n) = false := by decide +kernel
theorem rc9_9n : ∀ n, n < 256 → 97 ≤ n → n ≤ 122 → clsAt 9 (UInt8.ofNat n) = false := by decide +kernel
theorem rc9_10n : ∀ n, n < 256 → 123 ≤ n → n ≤ 255 → clsAt 9 (UInt8.ofNat n) = false := by decide +kernel
set_option maxHeartbeats 4000000 in
set_option maxRecDepth 100000 in
theorem refClass9 (c : UInt8) (w : World) :
    Calls Tryz.prog 13 #[.string { data := #[115, 112, 97, 99, 101] }, .int .u8 c.toNat] w fun e w' => e = .returned (.tuple #[.bool (clsAt 9 c), .bool true]) ∧ w' = w := by
  have h255 : c.toNat ≤ 255 := by have := c.toNat_lt; omega
  rcases (show (0 ≤ c.toNat ∧ c.toNat ≤ 8) ∨ (9 ≤ c.toNat ∧ c.toNat ≤ 13) ∨ (14 ≤ c.toNat ∧ c.toNat ≤ 31) ∨ (32 ≤ c.toNat ∧ c.toNat ≤ 32) ∨ (33 ≤ c.toNat ∧ c.toNat ≤ 47) ∨ (48 ≤ c.toNat ∧ c.toNat ≤ 57) ∨ (58 ≤ c.toNat ∧ c.toNat ≤ 64) ∨ (65 ≤ c.toNat ∧ c.toNat ≤ 90) ∨ (91 ≤ c.toNat ∧ c.toNat ≤ 96) ∨ (97 ≤ c.toNat ∧ c.toNat ≤ 122) ∨ (123 ≤ c.toNat ∧ c.toNat ≤ 255) from by omega) with ⟨r0, r1⟩ | ⟨r0, r1⟩ | ⟨r0, r1⟩ | ⟨r0, r1⟩ | ⟨r0, r1⟩ | ⟨r0, r1⟩ | ⟨r0, r1⟩ | ⟨r0, r1⟩ | ⟨r0, r1⟩ | ⟨r0, r1⟩ | ⟨r0, r1⟩
  · have hv : Hid (clsAt 9 c = false) := by
      have := rc9_0n c.toNat c.toNat_lt r0 r1
      rwa [UInt8.ofNat_toNat] at this
    have f0 : ¬ (97 : Int) ≤ (c.toNat : Int) := by omega
    have f1 : (c.toNat : Int) ≤ 122 := by omega
    have f2 : ¬ (65 : Int) ≤ (c.toNat : Int) := by omega
    have f3 : (c.toNat : Int) ≤ 90 := by omega
    have f4 : ¬ (48 : Int) ≤ (c.toNat : Int) := by omega
    have f5 : (c.toNat : Int) ≤ 57 := by omega
    have f6 : ¬ (9 : Int) ≤ (c.toNat : Int) := by omega
    have f7 : (c.toNat : Int) ≤ 13 := by omega
    have f8 : ((c.toNat : Int) == 32) = false := by simp; omega
    clear r0 r1 h255
    go_enter Tryz.func13, Tryz.ntmps13
    go_wp2_with fail
    go_ret2
    exact ⟨by rw [unhide hv]; rfl, rfl⟩
  · have hv : Hid (clsAt 9 c = true) := by
      have := rc9_1n c.toNat c.toNat_lt r0 r1
      rwa [UInt8.ofNat_toNat] at this
    have f0 : ¬ (97 : Int) ≤ (c.toNat : Int) := by omega
    have f1 : (c.toNat : Int) ≤ 122 := by omega
    have f2 : ¬ (65 : Int) ≤ (c.toNat : Int) := by omega
    have f3 : (c.toNat : Int) ≤ 90 := by omega
    have f4 : ¬ (48 : Int) ≤ (c.toNat : Int) := by omega
    have f5 : (c.toNat : Int) ≤ 57 := by omega
    have f6 : (9 : Int) ≤ (c.toNat : Int) := by omega
    have f7 : (c.toNat : Int) ≤ 13 := by omega
    have f8 : ((c.toNat : Int) == 32) = false := by simp; omega
    clear r0 r1 h255
    go_enter Tryz.func13, Tryz.ntmps13
    go_wp2_with fail
    go_ret2
    exact ⟨by rw [unhide hv]; rfl, rfl⟩
  · have hv : Hid (clsAt 9 c = false) := by
      have := rc9_2n c.toNat c.toNat_lt r0 r1
      rwa [UInt8.ofNat_toNat] at this
    have f0 : ¬ (97 : Int) ≤ (c.toNat : Int) := by omega
    have f1 : (c.toNat : Int) ≤ 122 := by omega
    have f2 : ¬ (65 : Int) ≤ (c.toNat : Int) := by omega
    have f3 : (c.toNat : Int) ≤ 90 := by omega
    have f4 : ¬ (48 : Int) ≤ (c.toNat : Int) := by omega
    have f5 : (c.toNat : Int) ≤ 57 := by omega
    have f6 : (9 : Int) ≤ (c.toNat : Int) := by omega
    have f7 : ¬ (c.toNat : Int) ≤ 13 := by omega
    have f8 : ((c.toNat : Int) == 32) = false := by simp; omega
    clear r0 r1 h255
    go_enter Tryz.func13, Tryz.ntmps13
    go_wp2_with fail
    go_ret2
    exact ⟨by rw [unhide hv]; rfl, rfl⟩
  · have hv : Hid (clsAt 9 c = true) := by
      have := rc9_3n c.toNat c.toNat_lt r0 r1
      rwa [UInt8.ofNat_toNat] at this
    have f0 : ¬ (97 : Int) ≤ (c.toNat : Int) := by omega
    have f1 : (c.toNat : Int) ≤ 122 := by omega
    have f2 : ¬ (65 : Int) ≤ (c.toNat : Int) := by omega
    have f3 : (c.toNat : Int) ≤ 90 := by omega
    have f4 : ¬ (48 : Int) ≤ (c.toNat : Int) := by omega
    have f5 : (c.toNat : Int) ≤ 57 := by omega
    have f6 : (9 : Int) ≤ (c.toNat : Int) := by omega
    have f7 : ¬ (c.toNat : Int) ≤ 13 := by omega
    have f8 : ((c.toNat : Int) == 32) = true := by simp; omega
    clear r0 r1 h255
    go_enter Tryz.func13, Tryz.ntmps13
    go_wp2_with fail
    go_ret2
    exact ⟨by rw [unhide hv]; rfl, rfl⟩
  · have hv : Hid (clsAt 9 c = false) := by
      have := rc9_4n c.toNat c.toNat_lt r0 r1
      rwa [UInt8.ofNat_toNat] at this
    have f0 : ¬ (97 : Int) ≤ (c.toNat : Int) := by omega
    have f1 : (c.toNat : Int) ≤ 122 := by omega
    have f2 : ¬ (65 : Int) ≤ (c.toNat : Int) := by omega
    have f3 : (c.toNat : Int) ≤ 90 := by omega
    have f4 : ¬ (48 : Int) ≤ (c.toNat : Int) := by omega
    have f5 : (c.toNat : Int) ≤ 57 := by omega
    have f6 : (9 : Int) ≤ (c.toNat : Int) := by omega
    have f7 : ¬ (c.toNat : Int) ≤ 13 := by omega
    have f8 : ((c.toNat : Int) == 32) = false := by simp; omega
    clear r0 r1 h255
    go_enter Tryz.func13, Tryz.ntmps13
    go_wp2_with fail
    go_ret2
    exact ⟨by rw [unhide hv]; rfl, rfl⟩
  · have hv : Hid (clsAt 9 c = false) := by
      have := rc9_5n c.toNat c.toNat_lt r0 r1
      rwa [UInt8.ofNat_toNat] at this
    have f0 : ¬ (97 : Int) ≤ (c.toNat : Int) := by omega
    have f1 : (c.toNat : Int) ≤ 122 := by omega
    have f2 : ¬ (65 : Int) ≤ (c.toNat : Int) := by omega
    have f3 : (c.toNat : Int) ≤ 90 := by omega
    have f4 : (48 : Int) ≤ (c.toNat : Int) := by omega
    have f5 : (c.toNat : Int) ≤ 57 := by omega
    have f6 : (9 : Int) ≤ (c.toNat : Int) := by omega
    have f7 : ¬ (c.toNat : Int) ≤ 13 := by omega
    have f8 : ((c.toNat : Int) == 32) = false := by simp; omega
    clear r0 r1 h255
    go_enter Tryz.func13, Tryz.ntmps13
    go_wp2_with fail
    go_ret2
    exact ⟨by rw [unhide hv]; rfl, rfl⟩
  · have hv : Hid (clsAt 9 c = false) := by
      have := rc9_6n c.toNat c.toNat_lt r0 r1
      rwa [UInt8.ofNat_toNat] at this
    have f0 : ¬ (97 : Int) ≤ (c.toNat : Int) := by omega
    have f1 : (c.toNat : Int) ≤ 122 := by omega
    have f2 : ¬ (65 : Int) ≤ (c.toNat : Int) := by omega
    have f3 : (c.toNat : Int) ≤ 90 := by omega
    have f4 : (48 : Int) ≤ (c.toNat : Int) := by omega
    have f5 : ¬ (c.toNat : Int) ≤ 57 := by omega
    have f6 : (9 : Int) ≤ (c.toNat : Int) := by omega
    have f7 : ¬ (c.toNat : Int) ≤ 13 := by omega
    have f8 : ((c.toNat : Int) == 32) = false := by simp; omega
    clear r0 r1 h255
    go_enter Tryz.func13, Tryz.ntmps13
    go_wp2_with fail
    go_ret2
    exact ⟨by rw [unhide hv]; rfl, rfl⟩
  · have hv : Hid (clsAt 9 c = false) := by
      have := rc9_7n c.toNat c.toNat_lt r0 r1
      rwa [UInt8.ofNat_toNat] at this
    have f0 : ¬ (97 : Int) ≤ (c.toNat : Int) := by omega
    have f1 : (c.toNat : Int) ≤ 122 := by omega
    have f2 : (65 : Int) ≤ (c.toNat : Int) := by omega
    have f3 : (c.toNat : Int) ≤ 90 := by omega
    have f4 : (48 : Int) ≤ (c.toNat : Int) := by omega
    have f5 : ¬ (c.toNat : Int) ≤ 57 := by omega
    have f6 : (9 : Int) ≤ (c.toNat : Int) := by omega
    have f7 : ¬ (c.toNat : Int) ≤ 13 := by omega
    have f8 : ((c.toNat : Int) == 32) = false := by simp; omega
    clear r0 r1 h255
    go_enter Tryz.func13, Tryz.ntmps13
    go_wp2_with fail
    go_ret2
    exact ⟨by rw [unhide hv]; rfl, rfl⟩
  · have hv : Hid (clsAt 9 c = false) := by
      have := rc9_8n c.toNat c.toNat_lt r0 r1
      rwa [UInt8.ofNat_toNat] at this
    have f0 : ¬ (97 : Int) ≤ (c.toNat : Int) := by omega
    have f1 : (c.toNat : Int) ≤ 122 := by omega
    have f2 : (65 : Int) ≤ (c.toNat : Int) := by omega
    have f3 : ¬ (c.toNat : Int) ≤ 90 := by omega
    have f4 : (48 : Int) ≤ (c.toNat : Int) := by omega
    have f5 : ¬ (c.toNat : Int) ≤ 57 := by omega
    have f6 : (9 : Int) ≤ (c.toNat : Int) := by omega
    have f7 : ¬ (c.toNat : Int) ≤ 13 := by omega
    have f8 : ((c.toNat : Int) == 32) = false := by simp; omega
    clear r0 r1 h255
    go_enter Tryz.func13, Tryz.ntmps13
    go_wp2_with fail
    go_ret2
    exact ⟨by rw [unhide hv]; rfl, rfl⟩
  · have hv : Hid (clsAt 9 c = false) := by
      have := rc9_9n c.toNat c.toNat_lt r0 r1
      rwa [UInt8.ofNat_toNat] at this
    have f0 : (97 : Int) ≤ (c.toNat : Int) := by omega
    have f1 : (c.toNat : Int) ≤ 122 := by omega
    have f2 : (65 : Int) ≤ (c.toNat : Int) := by omega
    have f3 : ¬ (c.toNat : Int) ≤ 90 := by omega
    have f4 : (48 : Int) ≤ (c.toNat : Int) := by omega
    have f5 : ¬ (c.toNat : Int) ≤ 57 := by omega
    have f6 : (9 : Int) ≤ (c.toNat : Int) := by omega
    have f7 : ¬ (c.toNat : Int) ≤ 13 := by omega
    have f8 : ((c.toNat : Int) == 32) = false := by simp; omega
    clear r0 r1 h255
    go_enter Tryz.func13, Tryz.ntmps13
    go_wp2_with fail
    go_ret2
    exact ⟨by rw [unhide hv]; rfl, rfl⟩
  · have hv : Hid (clsAt 9 c = false) := by
      have := rc9_10n c.toNat c.toNat_lt r0 r1
      rwa [UInt8.ofNat_toNat] at this
    have f0 : (97 : Int) ≤ (c.toNat : Int) := by omega
    have f1 : ¬ (c.toNat : Int) ≤ 122 := by omega
    have f2 : (65 : Int) ≤ (c.toNat : Int) := by omega
    have f3 : ¬ (c.toNat : Int) ≤ 90 := by omega
    have f4 : (48 : Int) ≤ (c.toNat : Int) := by omega
    have f5 : ¬ (c.toNat : Int) ≤ 57 := by omega
    have f6 : (9 : Int) ≤ (c.toNat : Int) := by omega
    have f7 : ¬ (c.toNat : Int) ≤ 13 := by omega
    have f8 : ((c.toNat : Int) == 32) = false := by simp; omega
    clear r0 r1 h255
    go_enter Tryz.func13, Tryz.ntmps13
    go_wp2_with fail
    go_ret2
    exact ⟨by rw [unhide hv]; rfl, rfl⟩
end Go.Proofs.YtjgboecifonjdaaGreatDoor.Se
