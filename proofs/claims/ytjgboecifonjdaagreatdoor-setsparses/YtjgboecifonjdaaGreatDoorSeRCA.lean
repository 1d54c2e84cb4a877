/- What the document's Class answers. -/
import Derived.Test.YtjgboecifonjdaaGreatDoorSeFacts
import Derived.WalkSpells
import Derived.BigQuiet
namespace Go.Proofs.YtjgboecifonjdaaGreatDoor.Se
open Go.RowKit

theorem rc0_0n : ∀ n, n < 256 → 0 ≤ n → n ≤ 47 → clsAt 0 (UInt8.ofNat n) = false := by decide +kernel
theorem rc0_1n : ∀ n, n < 256 → 48 ≤ n → n ≤ 57 → clsAt 0 (UInt8.ofNat n) = false := by decide +kernel
theorem rc0_2n : ∀ n, n < 256 → 58 ≤ n → n ≤ 64 → clsAt 0 (UInt8.ofNat n) = false := by decide +kernel
theorem rc0_3n : ∀ n, n < 256 → 65 ≤ n → n ≤ 90 → clsAt 0 (UInt8.ofNat n) = true := by decide +kernel
theorem rc0_4n : ∀ n, n < 256 → 91 ≤ n → n ≤ 96 → clsAt 0 (UInt8.ofNat n) = false := by decide +kernel
theorem rc0_5n : ∀ n, n < 256 → 97 ≤ n → n ≤ 122 → clsAt 0 (UInt8.ofNat n) = true := by decide +kernel
theorem rc0_6n : ∀ n, n < 256 → 123 ≤ n → n ≤ 255 → clsAt 0 (UInt8.ofNat n) = false := by decide +kernel
set_option maxHeartbeats 4000000 in
set_option maxRecDepth 100000 in
theorem refClass0 (c : UInt8) (w : World) :
    Calls Tryz.prog 13 #[.string { data := #[97, 108, 112, 104, 97] }, .int .u8 c.toNat] w fun e w' => e = .returned (.tuple #[.bool (clsAt 0 c), .bool true]) ∧ w' = w := by
  have h255 : c.toNat ≤ 255 := by have := c.toNat_lt; omega
  rcases (show (0 ≤ c.toNat ∧ c.toNat ≤ 47) ∨ (48 ≤ c.toNat ∧ c.toNat ≤ 57) ∨ (58 ≤ c.toNat ∧ c.toNat ≤ 64) ∨ (65 ≤ c.toNat ∧ c.toNat ≤ 90) ∨ (91 ≤ c.toNat ∧ c.toNat ≤ 96) ∨ (97 ≤ c.toNat ∧ c.toNat ≤ 122) ∨ (123 ≤ c.toNat ∧ c.toNat ≤ 255) from by omega) with ⟨r0, r1⟩ | ⟨r0, r1⟩ | ⟨r0, r1⟩ | ⟨r0, r1⟩ | ⟨r0, r1⟩ | ⟨r0, r1⟩ | ⟨r0, r1⟩
  · have hv : Hid (clsAt 0 c = false) := by
      have := rc0_0n c.toNat c.toNat_lt r0 r1
      rwa [UInt8.ofNat_toNat] at this
    have f0 : ¬ (97 : Int) ≤ (c.toNat : Int) := by omega
    have f1 : (c.toNat : Int) ≤ 122 := by omega
    have f2 : ¬ (65 : Int) ≤ (c.toNat : Int) := by omega
    have f3 : (c.toNat : Int) ≤ 90 := by omega
    have f4 : ¬ (48 : Int) ≤ (c.toNat : Int) := by omega
    have f5 : (c.toNat : Int) ≤ 57 := by omega
    clear r0 r1 h255
    go_enter Tryz.func13, Tryz.ntmps13
    go_wp2_with fail
    go_ret2
    exact ⟨by rw [unhide hv]; rfl, rfl⟩
  · have hv : Hid (clsAt 0 c = false) := by
      have := rc0_1n c.toNat c.toNat_lt r0 r1
      rwa [UInt8.ofNat_toNat] at this
    have f0 : ¬ (97 : Int) ≤ (c.toNat : Int) := by omega
    have f1 : (c.toNat : Int) ≤ 122 := by omega
    have f2 : ¬ (65 : Int) ≤ (c.toNat : Int) := by omega
    have f3 : (c.toNat : Int) ≤ 90 := by omega
    have f4 : (48 : Int) ≤ (c.toNat : Int) := by omega
    have f5 : (c.toNat : Int) ≤ 57 := by omega
    clear r0 r1 h255
    go_enter Tryz.func13, Tryz.ntmps13
    go_wp2_with fail
    go_ret2
    exact ⟨by rw [unhide hv]; rfl, rfl⟩
  · have hv : Hid (clsAt 0 c = false) := by
      have := rc0_2n c.toNat c.toNat_lt r0 r1
      rwa [UInt8.ofNat_toNat] at this
    have f0 : ¬ (97 : Int) ≤ (c.toNat : Int) := by omega
    have f1 : (c.toNat : Int) ≤ 122 := by omega
    have f2 : ¬ (65 : Int) ≤ (c.toNat : Int) := by omega
    have f3 : (c.toNat : Int) ≤ 90 := by omega
    have f4 : (48 : Int) ≤ (c.toNat : Int) := by omega
    have f5 : ¬ (c.toNat : Int) ≤ 57 := by omega
    clear r0 r1 h255
    go_enter Tryz.func13, Tryz.ntmps13
    go_wp2_with fail
    go_ret2
    exact ⟨by rw [unhide hv]; rfl, rfl⟩
  · have hv : Hid (clsAt 0 c = true) := by
      have := rc0_3n c.toNat c.toNat_lt r0 r1
      rwa [UInt8.ofNat_toNat] at this
    have f0 : ¬ (97 : Int) ≤ (c.toNat : Int) := by omega
    have f1 : (c.toNat : Int) ≤ 122 := by omega
    have f2 : (65 : Int) ≤ (c.toNat : Int) := by omega
    have f3 : (c.toNat : Int) ≤ 90 := by omega
    have f4 : (48 : Int) ≤ (c.toNat : Int) := by omega
    have f5 : ¬ (c.toNat : Int) ≤ 57 := by omega
    clear r0 r1 h255
    go_enter Tryz.func13, Tryz.ntmps13
    go_wp2_with fail
    go_ret2
    exact ⟨by rw [unhide hv]; rfl, rfl⟩
  · have hv : Hid (clsAt 0 c = false) := by
      have := rc0_4n c.toNat c.toNat_lt r0 r1
      rwa [UInt8.ofNat_toNat] at this
    have f0 : ¬ (97 : Int) ≤ (c.toNat : Int) := by omega
    have f1 : (c.toNat : Int) ≤ 122 := by omega
    have f2 : (65 : Int) ≤ (c.toNat : Int) := by omega
    have f3 : ¬ (c.toNat : Int) ≤ 90 := by omega
    have f4 : (48 : Int) ≤ (c.toNat : Int) := by omega
    have f5 : ¬ (c.toNat : Int) ≤ 57 := by omega
    clear r0 r1 h255
    go_enter Tryz.func13, Tryz.ntmps13
    go_wp2_with fail
    go_ret2
    exact ⟨by rw [unhide hv]; rfl, rfl⟩
  · have hv : Hid (clsAt 0 c = true) := by
      have := rc0_5n c.toNat c.toNat_lt r0 r1
      rwa [UInt8.ofNat_toNat] at this
    have f0 : (97 : Int) ≤ (c.toNat : Int) := by omega
    have f1 : (c.toNat : Int) ≤ 122 := by omega
    have f2 : (65 : Int) ≤ (c.toNat : Int) := by omega
    have f3 : ¬ (c.toNat : Int) ≤ 90 := by omega
    have f4 : (48 : Int) ≤ (c.toNat : Int) := by omega
    have f5 : ¬ (c.toNat : Int) ≤ 57 := by omega
    clear r0 r1 h255
    go_enter Tryz.func13, Tryz.ntmps13
    go_wp2_with fail
    go_ret2
    exact ⟨by rw [unhide hv]; rfl, rfl⟩
  · have hv : Hid (clsAt 0 c = false) := by
      have := rc0_6n c.toNat c.toNat_lt r0 r1
      rwa [UInt8.ofNat_toNat] at this
    have f0 : (97 : Int) ≤ (c.toNat : Int) := by omega
    have f1 : ¬ (c.toNat : Int) ≤ 122 := by omega
    have f2 : (65 : Int) ≤ (c.toNat : Int) := by omega
    have f3 : ¬ (c.toNat : Int) ≤ 90 := by omega
    have f4 : (48 : Int) ≤ (c.toNat : Int) := by omega
    have f5 : ¬ (c.toNat : Int) ≤ 57 := by omega
    clear r0 r1 h255
    go_enter Tryz.func13, Tryz.ntmps13
    go_wp2_with fail
    go_ret2
    exact ⟨by rw [unhide hv]; rfl, rfl⟩
theorem rc1_0n : ∀ n, n < 256 → 0 ≤ n → n ≤ 47 → clsAt 1 (UInt8.ofNat n) = false := by decide +kernel
theorem rc1_1n : ∀ n, n < 256 → 48 ≤ n → n ≤ 57 → clsAt 1 (UInt8.ofNat n) = true := by decide +kernel
theorem rc1_2n : ∀ n, n < 256 → 58 ≤ n → n ≤ 64 → clsAt 1 (UInt8.ofNat n) = false := by decide +kernel
theorem rc1_3n : ∀ n, n < 256 → 65 ≤ n → n ≤ 90 → clsAt 1 (UInt8.ofNat n) = true := by decide +kernel
theorem rc1_4n : ∀ n, n < 256 → 91 ≤ n → n ≤ 96 → clsAt 1 (UInt8.ofNat n) = false := by decide +kernel
theorem rc1_5n : ∀ n, n < 256 → 97 ≤ n → n ≤ 122 → clsAt 1 (UInt8.ofNat n) = true := by decide +kernel
theorem rc1_6n : ∀ n, n < 256 → 123 ≤ n → n ≤ 255 → clsAt 1 (UInt8.ofNat n) = false := by decide +kernel
set_option maxHeartbeats 4000000 in
set_option maxRecDepth 100000 in
theorem refClass1 (c : UInt8) (w : World) :
    Calls Tryz.prog 13 #[.string { data := #[97, 108, 110, 117, 109] }, .int .u8 c.toNat] w fun e w' => e = .returned (.tuple #[.bool (clsAt 1 c), .bool true]) ∧ w' = w := by
  have h255 : c.toNat ≤ 255 := by have := c.toNat_lt; omega
  rcases (show (0 ≤ c.toNat ∧ c.toNat ≤ 47) ∨ (48 ≤ c.toNat ∧ c.toNat ≤ 57) ∨ (58 ≤ c.toNat ∧ c.toNat ≤ 64) ∨ (65 ≤ c.toNat ∧ c.toNat ≤ 90) ∨ (91 ≤ c.toNat ∧ c.toNat ≤ 96) ∨ (97 ≤ c.toNat ∧ c.toNat ≤ 122) ∨ (123 ≤ c.toNat ∧ c.toNat ≤ 255) from by omega) with ⟨r0, r1⟩ | ⟨r0, r1⟩ | ⟨r0, r1⟩ | ⟨r0, r1⟩ | ⟨r0, r1⟩ | ⟨r0, r1⟩ | ⟨r0, r1⟩
  · have hv : Hid (clsAt 1 c = false) := by
      have := rc1_0n c.toNat c.toNat_lt r0 r1
      rwa [UInt8.ofNat_toNat] at this
    have f0 : ¬ (97 : Int) ≤ (c.toNat : Int) := by omega
    have f1 : (c.toNat : Int) ≤ 122 := by omega
    have f2 : ¬ (65 : Int) ≤ (c.toNat : Int) := by omega
    have f3 : (c.toNat : Int) ≤ 90 := by omega
    have f4 : ¬ (48 : Int) ≤ (c.toNat : Int) := by omega
    have f5 : (c.toNat : Int) ≤ 57 := by omega
    clear r0 r1 h255
    go_enter Tryz.func13, Tryz.ntmps13
    go_wp2_with fail
    go_ret2
    exact ⟨by rw [unhide hv]; rfl, rfl⟩
  · have hv : Hid (clsAt 1 c = true) := by
      have := rc1_1n c.toNat c.toNat_lt r0 r1
      rwa [UInt8.ofNat_toNat] at this
    have f0 : ¬ (97 : Int) ≤ (c.toNat : Int) := by omega
    have f1 : (c.toNat : Int) ≤ 122 := by omega
    have f2 : ¬ (65 : Int) ≤ (c.toNat : Int) := by omega
    have f3 : (c.toNat : Int) ≤ 90 := by omega
    have f4 : (48 : Int) ≤ (c.toNat : Int) := by omega
    have f5 : (c.toNat : Int) ≤ 57 := by omega
    clear r0 r1 h255
    go_enter Tryz.func13, Tryz.ntmps13
    go_wp2_with fail
    go_ret2
    exact ⟨by rw [unhide hv]; rfl, rfl⟩
  · have hv : Hid (clsAt 1 c = false) := by
      have := rc1_2n c.toNat c.toNat_lt r0 r1
      rwa [UInt8.ofNat_toNat] at this
    have f0 : ¬ (97 : Int) ≤ (c.toNat : Int) := by omega
    have f1 : (c.toNat : Int) ≤ 122 := by omega
    have f2 : ¬ (65 : Int) ≤ (c.toNat : Int) := by omega
    have f3 : (c.toNat : Int) ≤ 90 := by omega
    have f4 : (48 : Int) ≤ (c.toNat : Int) := by omega
    have f5 : ¬ (c.toNat : Int) ≤ 57 := by omega
    clear r0 r1 h255
    go_enter Tryz.func13, Tryz.ntmps13
    go_wp2_with fail
    go_ret2
    exact ⟨by rw [unhide hv]; rfl, rfl⟩
  · have hv : Hid (clsAt 1 c = true) := by
      have := rc1_3n c.toNat c.toNat_lt r0 r1
      rwa [UInt8.ofNat_toNat] at this
    have f0 : ¬ (97 : Int) ≤ (c.toNat : Int) := by omega
    have f1 : (c.toNat : Int) ≤ 122 := by omega
    have f2 : (65 : Int) ≤ (c.toNat : Int) := by omega
    have f3 : (c.toNat : Int) ≤ 90 := by omega
    have f4 : (48 : Int) ≤ (c.toNat : Int) := by omega
    have f5 : ¬ (c.toNat : Int) ≤ 57 := by omega
    clear r0 r1 h255
    go_enter Tryz.func13, Tryz.ntmps13
    go_wp2_with fail
    go_ret2
    exact ⟨by rw [unhide hv]; rfl, rfl⟩
  · have hv : Hid (clsAt 1 c = false) := by
      have := rc1_4n c.toNat c.toNat_lt r0 r1
      rwa [UInt8.ofNat_toNat] at this
    have f0 : ¬ (97 : Int) ≤ (c.toNat : Int) := by omega
    have f1 : (c.toNat : Int) ≤ 122 := by omega
    have f2 : (65 : Int) ≤ (c.toNat : Int) := by omega
    have f3 : ¬ (c.toNat : Int) ≤ 90 := by omega
    have f4 : (48 : Int) ≤ (c.toNat : Int) := by omega
    have f5 : ¬ (c.toNat : Int) ≤ 57 := by omega
    clear r0 r1 h255
    go_enter Tryz.func13, Tryz.ntmps13
    go_wp2_with fail
    go_ret2
    exact ⟨by rw [unhide hv]; rfl, rfl⟩
  · have hv : Hid (clsAt 1 c = true) := by
      have := rc1_5n c.toNat c.toNat_lt r0 r1
      rwa [UInt8.ofNat_toNat] at this
    have f0 : (97 : Int) ≤ (c.toNat : Int) := by omega
    have f1 : (c.toNat : Int) ≤ 122 := by omega
    have f2 : (65 : Int) ≤ (c.toNat : Int) := by omega
    have f3 : ¬ (c.toNat : Int) ≤ 90 := by omega
    have f4 : (48 : Int) ≤ (c.toNat : Int) := by omega
    have f5 : ¬ (c.toNat : Int) ≤ 57 := by omega
    clear r0 r1 h255
    go_enter Tryz.func13, Tryz.ntmps13
    go_wp2_with fail
    go_ret2
    exact ⟨by rw [unhide hv]; rfl, rfl⟩
  · have hv : Hid (clsAt 1 c = false) := by
      have := rc1_6n c.toNat c.toNat_lt r0 r1
      rwa [UInt8.ofNat_toNat] at this
    have f0 : (97 : Int) ≤ (c.toNat : Int) := by omega
    have f1 : ¬ (c.toNat : Int) ≤ 122 := by omega
    have f2 : (65 : Int) ≤ (c.toNat : Int) := by omega
    have f3 : ¬ (c.toNat : Int) ≤ 90 := by omega
    have f4 : (48 : Int) ≤ (c.toNat : Int) := by omega
    have f5 : ¬ (c.toNat : Int) ≤ 57 := by omega
    clear r0 r1 h255
    go_enter Tryz.func13, Tryz.ntmps13
    go_wp2_with fail
    go_ret2
    exact ⟨by rw [unhide hv]; rfl, rfl⟩
theorem rc2_0n : ∀ n, n < 256 → 0 ≤ n → n ≤ 8 → clsAt 2 (UInt8.ofNat n) = false := by decide +kernel
theorem rc2_1n : ∀ n, n < 256 → 9 ≤ n → n ≤ 9 → clsAt 2 (UInt8.ofNat n) = true := by decide +kernel
theorem rc2_2n : ∀ n, n < 256 → 10 ≤ n → n ≤ 31 → clsAt 2 (UInt8.ofNat n) = false := by decide +kernel
theorem rc2_3n : ∀ n, n < 256 → 32 ≤ n → n ≤ 32 → clsAt 2 (UInt8.ofNat n) = true := by decide +kernel
theorem rc2_4n : ∀ n, n < 256 → 33 ≤ n → n ≤ 47 → clsAt 2 (UInt8.ofNat n) = false := by decide +kernel
theorem rc2_5n : ∀ n, n < 256 → 48 ≤ n → n ≤ 57 → clsAt 2 (UInt8.ofNat n) = false := by decide +kernel
theorem rc2_6n : ∀ n, n < 256 → 58 ≤ n → n ≤ 64 → clsAt 2 (UInt8.ofNat n) = false := by decide +kernel
theorem rc2_7n : ∀ n, n < 256 → 65 ≤ n → n ≤ 90 → clsAt 2 (UInt8.ofNat n) = false := by decide +kernel
theorem rc2_8n : ∀ n, n < 256 → 91 ≤ n → n ≤ 96 → clsAt 2 (UInt8.ofNat n) = false := by decide +kernel
theorem rc2_9n : ∀ n, n < 256 → 97 ≤ n → n ≤ 122 → clsAt 2 (UInt8.ofNat n) = false := by decide +kernel
theorem rc2_10n : ∀ n, n < 256 → 123 ≤ n → n ≤ 255 → clsAt 2 (UInt8.ofNat n) = false := by decide +kernel
set_option maxHeartbeats 4000000 in
set_option maxRecDepth 100000 in
theorem refClass2 (c : UInt8) (w : World) :
    Calls Tryz.prog 13 #[.string { data := #[98, 108, 97, 110, 107] }, .int .u8 c.toNat] w fun e w' => e = .returned (.tuple #[.bool (clsAt 2 c), .bool true]) ∧ w' = w := by
  have h255 : c.toNat ≤ 255 := by have := c.toNat_lt; omega
  rcases (show (0 ≤ c.toNat ∧ c.toNat ≤ 8) ∨ (9 ≤ c.toNat ∧ c.toNat ≤ 9) ∨ (10 ≤ c.toNat ∧ c.toNat ≤ 31) ∨ (32 ≤ c.toNat ∧ c.toNat ≤ 32) ∨ (33 ≤ c.toNat ∧ c.toNat ≤ 47) ∨ (48 ≤ c.toNat ∧ c.toNat ≤ 57) ∨ (58 ≤ c.toNat ∧ c.toNat ≤ 64) ∨ (65 ≤ c.toNat ∧ c.toNat ≤ 90) ∨ (91 ≤ c.toNat ∧ c.toNat ≤ 96) ∨ (97 ≤ c.toNat ∧ c.toNat ≤ 122) ∨ (123 ≤ c.toNat ∧ c.toNat ≤ 255) from by omega) with ⟨r0, r1⟩ | ⟨r0, r1⟩ | ⟨r0, r1⟩ | ⟨r0, r1⟩ | ⟨r0, r1⟩ | ⟨r0, r1⟩ | ⟨r0, r1⟩ | ⟨r0, r1⟩ | ⟨r0, r1⟩ | ⟨r0, r1⟩ | ⟨r0, r1⟩
  · have hv : Hid (clsAt 2 c = false) := by
      have := rc2_0n c.toNat c.toNat_lt r0 r1
      rwa [UInt8.ofNat_toNat] at this
    have f0 : ¬ (97 : Int) ≤ (c.toNat : Int) := by omega
    have f1 : (c.toNat : Int) ≤ 122 := by omega
    have f2 : ¬ (65 : Int) ≤ (c.toNat : Int) := by omega
    have f3 : (c.toNat : Int) ≤ 90 := by omega
    have f4 : ¬ (48 : Int) ≤ (c.toNat : Int) := by omega
    have f5 : (c.toNat : Int) ≤ 57 := by omega
    have f6 : ((c.toNat : Int) == 9) = false := by simp; omega
    have f7 : ((c.toNat : Int) == 32) = false := by simp; omega
    clear r0 r1 h255
    go_enter Tryz.func13, Tryz.ntmps13
    go_wp2_with fail
    go_ret2
    exact ⟨by rw [unhide hv]; rfl, rfl⟩
  · have hv : Hid (clsAt 2 c = true) := by
      have := rc2_1n c.toNat c.toNat_lt r0 r1
      rwa [UInt8.ofNat_toNat] at this
    have f0 : ¬ (97 : Int) ≤ (c.toNat : Int) := by omega
    have f1 : (c.toNat : Int) ≤ 122 := by omega
    have f2 : ¬ (65 : Int) ≤ (c.toNat : Int) := by omega
    have f3 : (c.toNat : Int) ≤ 90 := by omega
    have f4 : ¬ (48 : Int) ≤ (c.toNat : Int) := by omega
    have f5 : (c.toNat : Int) ≤ 57 := by omega
    have f6 : ((c.toNat : Int) == 9) = true := by simp; omega
    have f7 : ((c.toNat : Int) == 32) = false := by simp; omega
    clear r0 r1 h255
    go_enter Tryz.func13, Tryz.ntmps13
    go_wp2_with fail
    go_ret2
    exact ⟨by rw [unhide hv]; rfl, rfl⟩
  · have hv : Hid (clsAt 2 c = false) := by
      have := rc2_2n c.toNat c.toNat_lt r0 r1
      rwa [UInt8.ofNat_toNat] at this
    have f0 : ¬ (97 : Int) ≤ (c.toNat : Int) := by omega
    have f1 : (c.toNat : Int) ≤ 122 := by omega
    have f2 : ¬ (65 : Int) ≤ (c.toNat : Int) := by omega
    have f3 : (c.toNat : Int) ≤ 90 := by omega
    have f4 : ¬ (48 : Int) ≤ (c.toNat : Int) := by omega
    have f5 : (c.toNat : Int) ≤ 57 := by omega
    have f6 : ((c.toNat : Int) == 9) = false := by simp; omega
    have f7 : ((c.toNat : Int) == 32) = false := by simp; omega
    clear r0 r1 h255
    go_enter Tryz.func13, Tryz.ntmps13
    go_wp2_with fail
    go_ret2
    exact ⟨by rw [unhide hv]; rfl, rfl⟩
  · have hv : Hid (clsAt 2 c = true) := by
      have := rc2_3n c.toNat c.toNat_lt r0 r1
      rwa [UInt8.ofNat_toNat] at this
    have f0 : ¬ (97 : Int) ≤ (c.toNat : Int) := by omega
    have f1 : (c.toNat : Int) ≤ 122 := by omega
    have f2 : ¬ (65 : Int) ≤ (c.toNat : Int) := by omega
    have f3 : (c.toNat : Int) ≤ 90 := by omega
    have f4 : ¬ (48 : Int) ≤ (c.toNat : Int) := by omega
    have f5 : (c.toNat : Int) ≤ 57 := by omega
    have f6 : ((c.toNat : Int) == 9) = false := by simp; omega
    have f7 : ((c.toNat : Int) == 32) = true := by simp; omega
    clear r0 r1 h255
    go_enter Tryz.func13, Tryz.ntmps13
    go_wp2_with fail
    go_ret2
    exact ⟨by rw [unhide hv]; rfl, rfl⟩
  · have hv : Hid (clsAt 2 c = false) := by
      have := rc2_4n c.toNat c.toNat_lt r0 r1
      rwa [UInt8.ofNat_toNat] at this
    have f0 : ¬ (97 : Int) ≤ (c.toNat : Int) := by omega
    have f1 : (c.toNat : Int) ≤ 122 := by omega
    have f2 : ¬ (65 : Int) ≤ (c.toNat : Int) := by omega
    have f3 : (c.toNat : Int) ≤ 90 := by omega
    have f4 : ¬ (48 : Int) ≤ (c.toNat : Int) := by omega
    have f5 : (c.toNat : Int) ≤ 57 := by omega
    have f6 : ((c.toNat : Int) == 9) = false := by simp; omega
    have f7 : ((c.toNat : Int) == 32) = false := by simp; omega
    clear r0 r1 h255
    go_enter Tryz.func13, Tryz.ntmps13
    go_wp2_with fail
    go_ret2
    exact ⟨by rw [unhide hv]; rfl, rfl⟩
  · have hv : Hid (clsAt 2 c = false) := by
      have := rc2_5n c.toNat c.toNat_lt r0 r1
      rwa [UInt8.ofNat_toNat] at this
    have f0 : ¬ (97 : Int) ≤ (c.toNat : Int) := by omega
    have f1 : (c.toNat : Int) ≤ 122 := by omega
    have f2 : ¬ (65 : Int) ≤ (c.toNat : Int) := by omega
    have f3 : (c.toNat : Int) ≤ 90 := by omega
    have f4 : (48 : Int) ≤ (c.toNat : Int) := by omega
    have f5 : (c.toNat : Int) ≤ 57 := by omega
    have f6 : ((c.toNat : Int) == 9) = false := by simp; omega
    have f7 : ((c.toNat : Int) == 32) = false := by simp; omega
    clear r0 r1 h255
    go_enter Tryz.func13, Tryz.ntmps13
    go_wp2_with fail
    go_ret2
    exact ⟨by rw [unhide hv]; rfl, rfl⟩
  · have hv : Hid (clsAt 2 c = false) := by
      have := rc2_6n c.toNat c.toNat_lt r0 r1
      rwa [UInt8.ofNat_toNat] at this
    have f0 : ¬ (97 : Int) ≤ (c.toNat : Int) := by omega
    have f1 : (c.toNat : Int) ≤ 122 := by omega
    have f2 : ¬ (65 : Int) ≤ (c.toNat : Int) := by omega
    have f3 : (c.toNat : Int) ≤ 90 := by omega
    have f4 : (48 : Int) ≤ (c.toNat : Int) := by omega
    have f5 : ¬ (c.toNat : Int) ≤ 57 := by omega
    have f6 : ((c.toNat : Int) == 9) = false := by simp; omega
    have f7 : ((c.toNat : Int) == 32) = false := by simp; omega
    clear r0 r1 h255
    go_enter Tryz.func13, Tryz.ntmps13
    go_wp2_with fail
    go_ret2
    exact ⟨by rw [unhide hv]; rfl, rfl⟩
  · have hv : Hid (clsAt 2 c = false) := by
      have := rc2_7n c.toNat c.toNat_lt r0 r1
      rwa [UInt8.ofNat_toNat] at this
    have f0 : ¬ (97 : Int) ≤ (c.toNat : Int) := by omega
    have f1 : (c.toNat : Int) ≤ 122 := by omega
    have f2 : (65 : Int) ≤ (c.toNat : Int) := by omega
    have f3 : (c.toNat : Int) ≤ 90 := by omega
    have f4 : (48 : Int) ≤ (c.toNat : Int) := by omega
    have f5 : ¬ (c.toNat : Int) ≤ 57 := by omega
    have f6 : ((c.toNat : Int) == 9) = false := by simp; omega
    have f7 : ((c.toNat : Int) == 32) = false := by simp; omega
    clear r0 r1 h255
    go_enter Tryz.func13, Tryz.ntmps13
    go_wp2_with fail
    go_ret2
    exact ⟨by rw [unhide hv]; rfl, rfl⟩
  · have hv : Hid (clsAt 2 c = false) := by
      have := rc2_8n c.toNat c.toNat_lt r0 r1
      rwa [UInt8.ofNat_toNat] at this
    have f0 : ¬ (97 : Int) ≤ (c.toNat : Int) := by omega
    have f1 : (c.toNat : Int) ≤ 122 := by omega
    have f2 : (65 : Int) ≤ (c.toNat : Int) := by omega
    have f3 : ¬ (c.toNat : Int) ≤ 90 := by omega
    have f4 : (48 : Int) ≤ (c.toNat : Int) := by omega
    have f5 : ¬ (c.toNat : Int) ≤ 57 := by omega
    have f6 : ((c.toNat : Int) == 9) = false := by simp; omega
    have f7 : ((c.toNat : Int) == 32) = false := by simp; omega
    clear r0 r1 h255
    go_enter Tryz.func13, Tryz.ntmps13
    go_wp2_with fail
    go_ret2
    exact ⟨by rw [unhide hv]; rfl, rfl⟩
  · have hv : Hid (clsAt 2 c = false) := by
      have := rc2_9n c.toNat c.toNat_lt r0 r1
      rwa [UInt8.ofNat_toNat] at this
    have f0 : (97 : Int) ≤ (c.toNat : Int) := by omega
    have f1 : (c.toNat : Int) ≤ 122 := by omega
    have f2 : (65 : Int) ≤ (c.toNat : Int) := by omega
    have f3 : ¬ (c.toNat : Int) ≤ 90 := by omega
    have f4 : (48 : Int) ≤ (c.toNat : Int) := by omega
    have f5 : ¬ (c.toNat : Int) ≤ 57 := by omega
    have f6 : ((c.toNat : Int) == 9) = false := by simp; omega
    have f7 : ((c.toNat : Int) == 32) = false := by simp; omega
    clear r0 r1 h255
    go_enter Tryz.func13, Tryz.ntmps13
    go_wp2_with fail
    go_ret2
    exact ⟨by rw [unhide hv]; rfl, rfl⟩
  · have hv : Hid (clsAt 2 c = false) := by
      have := rc2_10n c.toNat c.toNat_lt r0 r1
      rwa [UInt8.ofNat_toNat] at this
    have f0 : (97 : Int) ≤ (c.toNat : Int) := by omega
    have f1 : ¬ (c.toNat : Int) ≤ 122 := by omega
    have f2 : (65 : Int) ≤ (c.toNat : Int) := by omega
    have f3 : ¬ (c.toNat : Int) ≤ 90 := by omega
    have f4 : (48 : Int) ≤ (c.toNat : Int) := by omega
    have f5 : ¬ (c.toNat : Int) ≤ 57 := by omega
    have f6 : ((c.toNat : Int) == 9) = false := by simp; omega
    have f7 : ((c.toNat : Int) == 32) = false := by simp; omega
    clear r0 r1 h255
    go_enter Tryz.func13, Tryz.ntmps13
    go_wp2_with fail
    go_ret2
    exact ⟨by rw [unhide hv]; rfl, rfl⟩
end Go.Proofs.YtjgboecifonjdaaGreatDoor.Se
