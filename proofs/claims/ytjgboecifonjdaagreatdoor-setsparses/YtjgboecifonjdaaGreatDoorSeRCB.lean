/- What the document's Class answers. -/
import Derived.Test.YtjgboecifonjdaaGreatDoorSeFacts
import Derived.WalkSpells
import Derived.BigQuiet
namespace Go.Proofs.YtjgboecifonjdaaGreatDoor.Se
open Go.RowKit

theorem rc3_0n : ∀ n, n < 256 → 0 ≤ n → n ≤ 31 → clsAt 3 (UInt8.ofNat n) = true := by decide +kernel
theorem rc3_1n : ∀ n, n < 256 → 32 ≤ n → n ≤ 47 → clsAt 3 (UInt8.ofNat n) = false := by decide +kernel
theorem rc3_2n : ∀ n, n < 256 → 48 ≤ n → n ≤ 57 → clsAt 3 (UInt8.ofNat n) = false := by decide +kernel
theorem rc3_3n : ∀ n, n < 256 → 58 ≤ n → n ≤ 64 → clsAt 3 (UInt8.ofNat n) = false := by decide +kernel
theorem rc3_4n : ∀ n, n < 256 → 65 ≤ n → n ≤ 90 → clsAt 3 (UInt8.ofNat n) = false := by decide +kernel
theorem rc3_5n : ∀ n, n < 256 → 91 ≤ n → n ≤ 96 → clsAt 3 (UInt8.ofNat n) = false := by decide +kernel
theorem rc3_6n : ∀ n, n < 256 → 97 ≤ n → n ≤ 122 → clsAt 3 (UInt8.ofNat n) = false := by decide +kernel
theorem rc3_7n : ∀ n, n < 256 → 123 ≤ n → n ≤ 126 → clsAt 3 (UInt8.ofNat n) = false := by decide +kernel
theorem rc3_8n : ∀ n, n < 256 → 127 ≤ n → n ≤ 127 → clsAt 3 (UInt8.ofNat n) = true := by decide +kernel
theorem rc3_9n : ∀ n, n < 256 → 128 ≤ n → n ≤ 255 → clsAt 3 (UInt8.ofNat n) = false := by decide +kernel
set_option maxHeartbeats 4000000 in
set_option maxRecDepth 100000 in
theorem refClass3 (c : UInt8) (w : World) :
    Calls Tryz.prog 13 #[.string { data := #[99, 110, 116, 114, 108] }, .int .u8 c.toNat] w fun e w' => e = .returned (.tuple #[.bool (clsAt 3 c), .bool true]) ∧ w' = w := by
  have h255 : c.toNat ≤ 255 := by have := c.toNat_lt; omega
  rcases (show (0 ≤ c.toNat ∧ c.toNat ≤ 31) ∨ (32 ≤ c.toNat ∧ c.toNat ≤ 47) ∨ (48 ≤ c.toNat ∧ c.toNat ≤ 57) ∨ (58 ≤ c.toNat ∧ c.toNat ≤ 64) ∨ (65 ≤ c.toNat ∧ c.toNat ≤ 90) ∨ (91 ≤ c.toNat ∧ c.toNat ≤ 96) ∨ (97 ≤ c.toNat ∧ c.toNat ≤ 122) ∨ (123 ≤ c.toNat ∧ c.toNat ≤ 126) ∨ (127 ≤ c.toNat ∧ c.toNat ≤ 127) ∨ (128 ≤ c.toNat ∧ c.toNat ≤ 255) from by omega) with ⟨r0, r1⟩ | ⟨r0, r1⟩ | ⟨r0, r1⟩ | ⟨r0, r1⟩ | ⟨r0, r1⟩ | ⟨r0, r1⟩ | ⟨r0, r1⟩ | ⟨r0, r1⟩ | ⟨r0, r1⟩ | ⟨r0, r1⟩
  · have hv : Hid (clsAt 3 c = true) := by
      have := rc3_0n c.toNat c.toNat_lt r0 r1
      rwa [UInt8.ofNat_toNat] at this
    have f0 : ¬ (97 : Int) ≤ (c.toNat : Int) := by omega
    have f1 : (c.toNat : Int) ≤ 122 := by omega
    have f2 : ¬ (65 : Int) ≤ (c.toNat : Int) := by omega
    have f3 : (c.toNat : Int) ≤ 90 := by omega
    have f4 : ¬ (48 : Int) ≤ (c.toNat : Int) := by omega
    have f5 : (c.toNat : Int) ≤ 57 := by omega
    have f6 : (c.toNat : Int) < 32 := by omega
    have f7 : ((c.toNat : Int) == 127) = false := by simp; omega
    clear r0 r1 h255
    go_enter Tryz.func13, Tryz.ntmps13
    go_wp2_with fail
    go_ret2
    exact ⟨by rw [unhide hv]; rfl, rfl⟩
  · have hv : Hid (clsAt 3 c = false) := by
      have := rc3_1n c.toNat c.toNat_lt r0 r1
      rwa [UInt8.ofNat_toNat] at this
    have f0 : ¬ (97 : Int) ≤ (c.toNat : Int) := by omega
    have f1 : (c.toNat : Int) ≤ 122 := by omega
    have f2 : ¬ (65 : Int) ≤ (c.toNat : Int) := by omega
    have f3 : (c.toNat : Int) ≤ 90 := by omega
    have f4 : ¬ (48 : Int) ≤ (c.toNat : Int) := by omega
    have f5 : (c.toNat : Int) ≤ 57 := by omega
    have f6 : ¬ (c.toNat : Int) < 32 := by omega
    have f7 : ((c.toNat : Int) == 127) = false := by simp; omega
    clear r0 r1 h255
    go_enter Tryz.func13, Tryz.ntmps13
    go_wp2_with fail
    go_ret2
    exact ⟨by rw [unhide hv]; rfl, rfl⟩
  · have hv : Hid (clsAt 3 c = false) := by
      have := rc3_2n c.toNat c.toNat_lt r0 r1
      rwa [UInt8.ofNat_toNat] at this
    have f0 : ¬ (97 : Int) ≤ (c.toNat : Int) := by omega
    have f1 : (c.toNat : Int) ≤ 122 := by omega
    have f2 : ¬ (65 : Int) ≤ (c.toNat : Int) := by omega
    have f3 : (c.toNat : Int) ≤ 90 := by omega
    have f4 : (48 : Int) ≤ (c.toNat : Int) := by omega
    have f5 : (c.toNat : Int) ≤ 57 := by omega
    have f6 : ¬ (c.toNat : Int) < 32 := by omega
    have f7 : ((c.toNat : Int) == 127) = false := by simp; omega
    clear r0 r1 h255
    go_enter Tryz.func13, Tryz.ntmps13
    go_wp2_with fail
    go_ret2
    exact ⟨by rw [unhide hv]; rfl, rfl⟩
  · have hv : Hid (clsAt 3 c = false) := by
      have := rc3_3n c.toNat c.toNat_lt r0 r1
      rwa [UInt8.ofNat_toNat] at this
    have f0 : ¬ (97 : Int) ≤ (c.toNat : Int) := by omega
    have f1 : (c.toNat : Int) ≤ 122 := by omega
    have f2 : ¬ (65 : Int) ≤ (c.toNat : Int) := by omega
    have f3 : (c.toNat : Int) ≤ 90 := by omega
    have f4 : (48 : Int) ≤ (c.toNat : Int) := by omega
    have f5 : ¬ (c.toNat : Int) ≤ 57 := by omega
    have f6 : ¬ (c.toNat : Int) < 32 := by omega
    have f7 : ((c.toNat : Int) == 127) = false := by simp; omega
    clear r0 r1 h255
    go_enter Tryz.func13, Tryz.ntmps13
    go_wp2_with fail
    go_ret2
    exact ⟨by rw [unhide hv]; rfl, rfl⟩
  · have hv : Hid (clsAt 3 c = false) := by
      have := rc3_4n c.toNat c.toNat_lt r0 r1
      rwa [UInt8.ofNat_toNat] at this
    have f0 : ¬ (97 : Int) ≤ (c.toNat : Int) := by omega
    have f1 : (c.toNat : Int) ≤ 122 := by omega
    have f2 : (65 : Int) ≤ (c.toNat : Int) := by omega
    have f3 : (c.toNat : Int) ≤ 90 := by omega
    have f4 : (48 : Int) ≤ (c.toNat : Int) := by omega
    have f5 : ¬ (c.toNat : Int) ≤ 57 := by omega
    have f6 : ¬ (c.toNat : Int) < 32 := by omega
    have f7 : ((c.toNat : Int) == 127) = false := by simp; omega
    clear r0 r1 h255
    go_enter Tryz.func13, Tryz.ntmps13
    go_wp2_with fail
    go_ret2
    exact ⟨by rw [unhide hv]; rfl, rfl⟩
  · have hv : Hid (clsAt 3 c = false) := by
      have := rc3_5n c.toNat c.toNat_lt r0 r1
      rwa [UInt8.ofNat_toNat] at this
    have f0 : ¬ (97 : Int) ≤ (c.toNat : Int) := by omega
    have f1 : (c.toNat : Int) ≤ 122 := by omega
    have f2 : (65 : Int) ≤ (c.toNat : Int) := by omega
    have f3 : ¬ (c.toNat : Int) ≤ 90 := by omega
    have f4 : (48 : Int) ≤ (c.toNat : Int) := by omega
    have f5 : ¬ (c.toNat : Int) ≤ 57 := by omega
    have f6 : ¬ (c.toNat : Int) < 32 := by omega
    have f7 : ((c.toNat : Int) == 127) = false := by simp; omega
    clear r0 r1 h255
    go_enter Tryz.func13, Tryz.ntmps13
    go_wp2_with fail
    go_ret2
    exact ⟨by rw [unhide hv]; rfl, rfl⟩
  · have hv : Hid (clsAt 3 c = false) := by
      have := rc3_6n c.toNat c.toNat_lt r0 r1
      rwa [UInt8.ofNat_toNat] at this
    have f0 : (97 : Int) ≤ (c.toNat : Int) := by omega
    have f1 : (c.toNat : Int) ≤ 122 := by omega
    have f2 : (65 : Int) ≤ (c.toNat : Int) := by omega
    have f3 : ¬ (c.toNat : Int) ≤ 90 := by omega
    have f4 : (48 : Int) ≤ (c.toNat : Int) := by omega
    have f5 : ¬ (c.toNat : Int) ≤ 57 := by omega
    have f6 : ¬ (c.toNat : Int) < 32 := by omega
    have f7 : ((c.toNat : Int) == 127) = false := by simp; omega
    clear r0 r1 h255
    go_enter Tryz.func13, Tryz.ntmps13
    go_wp2_with fail
    go_ret2
    exact ⟨by rw [unhide hv]; rfl, rfl⟩
  · have hv : Hid (clsAt 3 c = false) := by
      have := rc3_7n c.toNat c.toNat_lt r0 r1
      rwa [UInt8.ofNat_toNat] at this
    have f0 : (97 : Int) ≤ (c.toNat : Int) := by omega
    have f1 : ¬ (c.toNat : Int) ≤ 122 := by omega
    have f2 : (65 : Int) ≤ (c.toNat : Int) := by omega
    have f3 : ¬ (c.toNat : Int) ≤ 90 := by omega
    have f4 : (48 : Int) ≤ (c.toNat : Int) := by omega
    have f5 : ¬ (c.toNat : Int) ≤ 57 := by omega
    have f6 : ¬ (c.toNat : Int) < 32 := by omega
    have f7 : ((c.toNat : Int) == 127) = false := by simp; omega
    clear r0 r1 h255
    go_enter Tryz.func13, Tryz.ntmps13
    go_wp2_with fail
    go_ret2
    exact ⟨by rw [unhide hv]; rfl, rfl⟩
  · have hv : Hid (clsAt 3 c = true) := by
      have := rc3_8n c.toNat c.toNat_lt r0 r1
      rwa [UInt8.ofNat_toNat] at this
    have f0 : (97 : Int) ≤ (c.toNat : Int) := by omega
    have f1 : ¬ (c.toNat : Int) ≤ 122 := by omega
    have f2 : (65 : Int) ≤ (c.toNat : Int) := by omega
    have f3 : ¬ (c.toNat : Int) ≤ 90 := by omega
    have f4 : (48 : Int) ≤ (c.toNat : Int) := by omega
    have f5 : ¬ (c.toNat : Int) ≤ 57 := by omega
    have f6 : ¬ (c.toNat : Int) < 32 := by omega
    have f7 : ((c.toNat : Int) == 127) = true := by simp; omega
    clear r0 r1 h255
    go_enter Tryz.func13, Tryz.ntmps13
    go_wp2_with fail
    go_ret2
    exact ⟨by rw [unhide hv]; rfl, rfl⟩
  · have hv : Hid (clsAt 3 c = false) := by
      have := rc3_9n c.toNat c.toNat_lt r0 r1
      rwa [UInt8.ofNat_toNat] at this
    have f0 : (97 : Int) ≤ (c.toNat : Int) := by omega
    have f1 : ¬ (c.toNat : Int) ≤ 122 := by omega
    have f2 : (65 : Int) ≤ (c.toNat : Int) := by omega
    have f3 : ¬ (c.toNat : Int) ≤ 90 := by omega
    have f4 : (48 : Int) ≤ (c.toNat : Int) := by omega
    have f5 : ¬ (c.toNat : Int) ≤ 57 := by omega
    have f6 : ¬ (c.toNat : Int) < 32 := by omega
    have f7 : ((c.toNat : Int) == 127) = false := by simp; omega
    clear r0 r1 h255
    go_enter Tryz.func13, Tryz.ntmps13
    go_wp2_with fail
    go_ret2
    exact ⟨by rw [unhide hv]; rfl, rfl⟩
theorem rc4_0n : ∀ n, n < 256 → 0 ≤ n → n ≤ 47 → clsAt 4 (UInt8.ofNat n) = false := by decide +kernel
theorem rc4_1n : ∀ n, n < 256 → 48 ≤ n → n ≤ 57 → clsAt 4 (UInt8.ofNat n) = true := by decide +kernel
theorem rc4_2n : ∀ n, n < 256 → 58 ≤ n → n ≤ 64 → clsAt 4 (UInt8.ofNat n) = false := by decide +kernel
theorem rc4_3n : ∀ n, n < 256 → 65 ≤ n → n ≤ 90 → clsAt 4 (UInt8.ofNat n) = false := by decide +kernel
theorem rc4_4n : ∀ n, n < 256 → 91 ≤ n → n ≤ 96 → clsAt 4 (UInt8.ofNat n) = false := by decide +kernel
theorem rc4_5n : ∀ n, n < 256 → 97 ≤ n → n ≤ 122 → clsAt 4 (UInt8.ofNat n) = false := by decide +kernel
theorem rc4_6n : ∀ n, n < 256 → 123 ≤ n → n ≤ 255 → clsAt 4 (UInt8.ofNat n) = false := by decide +kernel
set_option maxHeartbeats 4000000 in
set_option maxRecDepth 100000 in
theorem refClass4 (c : UInt8) (w : World) :
    Calls Tryz.prog 13 #[.string { data := #[100, 105, 103, 105, 116] }, .int .u8 c.toNat] w fun e w' => e = .returned (.tuple #[.bool (clsAt 4 c), .bool true]) ∧ w' = w := by
  have h255 : c.toNat ≤ 255 := by have := c.toNat_lt; omega
  rcases (show (0 ≤ c.toNat ∧ c.toNat ≤ 47) ∨ (48 ≤ c.toNat ∧ c.toNat ≤ 57) ∨ (58 ≤ c.toNat ∧ c.toNat ≤ 64) ∨ (65 ≤ c.toNat ∧ c.toNat ≤ 90) ∨ (91 ≤ c.toNat ∧ c.toNat ≤ 96) ∨ (97 ≤ c.toNat ∧ c.toNat ≤ 122) ∨ (123 ≤ c.toNat ∧ c.toNat ≤ 255) from by omega) with ⟨r0, r1⟩ | ⟨r0, r1⟩ | ⟨r0, r1⟩ | ⟨r0, r1⟩ | ⟨r0, r1⟩ | ⟨r0, r1⟩ | ⟨r0, r1⟩
  · have hv : Hid (clsAt 4 c = false) := by
      have := rc4_0n c.toNat c.toNat_lt r0 r1
      rwa [UInt8.ofNat_toNat] at this
    have f0 : ¬ (97 : Int) ≤ (c.toNat : Int) := by omega
    have f1 : (c.toNat : Int) ≤ 122 := by omega
    have f2 : ¬ (65 : Int) ≤ (c.toNat : Int) := by omega
    have f3 : (c.toNat : Int) ≤ 90 := by omega
    have f4 : ¬ (48 : Int) ≤ (c.toNat : Int) := by omega
    have f5 : (c.toNat : Int) ≤ 57 := by omega
    clear r0 r1 h255
    go_enter Tryz.func13, Tryz.ntmps13
    go_wp2_with fail
    go_ret2
    exact ⟨by rw [unhide hv]; rfl, rfl⟩
  · have hv : Hid (clsAt 4 c = true) := by
      have := rc4_1n c.toNat c.toNat_lt r0 r1
      rwa [UInt8.ofNat_toNat] at this
    have f0 : ¬ (97 : Int) ≤ (c.toNat : Int) := by omega
    have f1 : (c.toNat : Int) ≤ 122 := by omega
    have f2 : ¬ (65 : Int) ≤ (c.toNat : Int) := by omega
    have f3 : (c.toNat : Int) ≤ 90 := by omega
    have f4 : (48 : Int) ≤ (c.toNat : Int) := by omega
    have f5 : (c.toNat : Int) ≤ 57 := by omega
    clear r0 r1 h255
    go_enter Tryz.func13, Tryz.ntmps13
    go_wp2_with fail
    go_ret2
    exact ⟨by rw [unhide hv]; rfl, rfl⟩
  · have hv : Hid (clsAt 4 c = false) := by
      have := rc4_2n c.toNat c.toNat_lt r0 r1
      rwa [UInt8.ofNat_toNat] at this
    have f0 : ¬ (97 : Int) ≤ (c.toNat : Int) := by omega
    have f1 : (c.toNat : Int) ≤ 122 := by omega
    have f2 : ¬ (65 : Int) ≤ (c.toNat : Int) := by omega
    have f3 : (c.toNat : Int) ≤ 90 := by omega
    have f4 : (48 : Int) ≤ (c.toNat : Int) := by omega
    have f5 : ¬ (c.toNat : Int) ≤ 57 := by omega
    clear r0 r1 h255
    go_enter Tryz.func13, Tryz.ntmps13
    go_wp2_with fail
    go_ret2
    exact ⟨by rw [unhide hv]; rfl, rfl⟩
  · have hv : Hid (clsAt 4 c = false) := by
      have := rc4_3n c.toNat c.toNat_lt r0 r1
      rwa [UInt8.ofNat_toNat] at this
    have f0 : ¬ (97 : Int) ≤ (c.toNat : Int) := by omega
    have f1 : (c.toNat : Int) ≤ 122 := by omega
    have f2 : (65 : Int) ≤ (c.toNat : Int) := by omega
    have f3 : (c.toNat : Int) ≤ 90 := by omega
    have f4 : (48 : Int) ≤ (c.toNat : Int) := by omega
    have f5 : ¬ (c.toNat : Int) ≤ 57 := by omega
    clear r0 r1 h255
    go_enter Tryz.func13, Tryz.ntmps13
    go_wp2_with fail
    go_ret2
    exact ⟨by rw [unhide hv]; rfl, rfl⟩
  · have hv : Hid (clsAt 4 c = false) := by
      have := rc4_4n c.toNat c.toNat_lt r0 r1
      rwa [UInt8.ofNat_toNat] at this
    have f0 : ¬ (97 : Int) ≤ (c.toNat : Int) := by omega
    have f1 : (c.toNat : Int) ≤ 122 := by omega
    have f2 : (65 : Int) ≤ (c.toNat : Int) := by omega
    have f3 : ¬ (c.toNat : Int) ≤ 90 := by omega
    have f4 : (48 : Int) ≤ (c.toNat : Int) := by omega
    have f5 : ¬ (c.toNat : Int) ≤ 57 := by omega
    clear r0 r1 h255
    go_enter Tryz.func13, Tryz.ntmps13
    go_wp2_with fail
    go_ret2
    exact ⟨by rw [unhide hv]; rfl, rfl⟩
  · have hv : Hid (clsAt 4 c = false) := by
      have := rc4_5n c.toNat c.toNat_lt r0 r1
      rwa [UInt8.ofNat_toNat] at this
    have f0 : (97 : Int) ≤ (c.toNat : Int) := by omega
    have f1 : (c.toNat : Int) ≤ 122 := by omega
    have f2 : (65 : Int) ≤ (c.toNat : Int) := by omega
    have f3 : ¬ (c.toNat : Int) ≤ 90 := by omega
    have f4 : (48 : Int) ≤ (c.toNat : Int) := by omega
    have f5 : ¬ (c.toNat : Int) ≤ 57 := by omega
    clear r0 r1 h255
    go_enter Tryz.func13, Tryz.ntmps13
    go_wp2_with fail
    go_ret2
    exact ⟨by rw [unhide hv]; rfl, rfl⟩
  · have hv : Hid (clsAt 4 c = false) := by
      have := rc4_6n c.toNat c.toNat_lt r0 r1
      rwa [UInt8.ofNat_toNat] at this
    have f0 : (97 : Int) ≤ (c.toNat : Int) := by omega
    have f1 : ¬ (c.toNat : Int) ≤ 122 := by omega
    have f2 : (65 : Int) ≤ (c.toNat : Int) := by omega
    have f3 : ¬ (c.toNat : Int) ≤ 90 := by omega
    have f4 : (48 : Int) ≤ (c.toNat : Int) := by omega
    have f5 : ¬ (c.toNat : Int) ≤ 57 := by omega
    clear r0 r1 h255
    go_enter Tryz.func13, Tryz.ntmps13
    go_wp2_with fail
    go_ret2
    exact ⟨by rw [unhide hv]; rfl, rfl⟩
theorem rc5_0n : ∀ n, n < 256 → 0 ≤ n → n ≤ 32 → clsAt 5 (UInt8.ofNat n) = false := by decide +kernel
theorem rc5_1n : ∀ n, n < 256 → 33 ≤ n → n ≤ 47 → clsAt 5 (UInt8.ofNat n) = true := by decide +kernel
theorem rc5_2n : ∀ n, n < 256 → 48 ≤ n → n ≤ 57 → clsAt 5 (UInt8.ofNat n) = true := by decide +kernel
theorem rc5_3n : ∀ n, n < 256 → 58 ≤ n → n ≤ 64 → clsAt 5 (UInt8.ofNat n) = true := by decide +kernel
theorem rc5_4n : ∀ n, n < 256 → 65 ≤ n → n ≤ 90 → clsAt 5 (UInt8.ofNat n) = true := by decide +kernel
theorem rc5_5n : ∀ n, n < 256 → 91 ≤ n → n ≤ 96 → clsAt 5 (UInt8.ofNat n) = true := by decide +kernel
theorem rc5_6n : ∀ n, n < 256 → 97 ≤ n → n ≤ 122 → clsAt 5 (UInt8.ofNat n) = true := by decide +kernel
theorem rc5_7n : ∀ n, n < 256 → 123 ≤ n → n ≤ 126 → clsAt 5 (UInt8.ofNat n) = true := by decide +kernel
theorem rc5_8n : ∀ n, n < 256 → 127 ≤ n → n ≤ 255 → clsAt 5 (UInt8.ofNat n) = false := by decide +kernel
set_option maxHeartbeats 4000000 in
set_option maxRecDepth 100000 in
theorem refClass5 (c : UInt8) (w : World) :
    Calls Tryz.prog 13 #[.string { data := #[103, 114, 97, 112, 104] }, .int .u8 c.toNat] w fun e w' => e = .returned (.tuple #[.bool (clsAt 5 c), .bool true]) ∧ w' = w := by
  have h255 : c.toNat ≤ 255 := by have := c.toNat_lt; omega
  rcases (show (0 ≤ c.toNat ∧ c.toNat ≤ 32) ∨ (33 ≤ c.toNat ∧ c.toNat ≤ 47) ∨ (48 ≤ c.toNat ∧ c.toNat ≤ 57) ∨ (58 ≤ c.toNat ∧ c.toNat ≤ 64) ∨ (65 ≤ c.toNat ∧ c.toNat ≤ 90) ∨ (91 ≤ c.toNat ∧ c.toNat ≤ 96) ∨ (97 ≤ c.toNat ∧ c.toNat ≤ 122) ∨ (123 ≤ c.toNat ∧ c.toNat ≤ 126) ∨ (127 ≤ c.toNat ∧ c.toNat ≤ 255) from by omega) with ⟨r0, r1⟩ | ⟨r0, r1⟩ | ⟨r0, r1⟩ | ⟨r0, r1⟩ | ⟨r0, r1⟩ | ⟨r0, r1⟩ | ⟨r0, r1⟩ | ⟨r0, r1⟩ | ⟨r0, r1⟩
  · have hv : Hid (clsAt 5 c = false) := by
      have := rc5_0n c.toNat c.toNat_lt r0 r1
      rwa [UInt8.ofNat_toNat] at this
    have f0 : ¬ (97 : Int) ≤ (c.toNat : Int) := by omega
    have f1 : (c.toNat : Int) ≤ 122 := by omega
    have f2 : ¬ (65 : Int) ≤ (c.toNat : Int) := by omega
    have f3 : (c.toNat : Int) ≤ 90 := by omega
    have f4 : ¬ (48 : Int) ≤ (c.toNat : Int) := by omega
    have f5 : (c.toNat : Int) ≤ 57 := by omega
    have f6 : ¬ (32 : Int) < (c.toNat : Int) := by omega
    have f7 : (c.toNat : Int) < 127 := by omega
    clear r0 r1 h255
    go_enter Tryz.func13, Tryz.ntmps13
    go_wp2_with fail
    go_ret2
    exact ⟨by rw [unhide hv]; rfl, rfl⟩
  · have hv : Hid (clsAt 5 c = true) := by
      have := rc5_1n c.toNat c.toNat_lt r0 r1
      rwa [UInt8.ofNat_toNat] at this
    have f0 : ¬ (97 : Int) ≤ (c.toNat : Int) := by omega
    have f1 : (c.toNat : Int) ≤ 122 := by omega
    have f2 : ¬ (65 : Int) ≤ (c.toNat : Int) := by omega
    have f3 : (c.toNat : Int) ≤ 90 := by omega
    have f4 : ¬ (48 : Int) ≤ (c.toNat : Int) := by omega
    have f5 : (c.toNat : Int) ≤ 57 := by omega
    have f6 : (32 : Int) < (c.toNat : Int) := by omega
    have f7 : (c.toNat : Int) < 127 := by omega
    clear r0 r1 h255
    go_enter Tryz.func13, Tryz.ntmps13
    go_wp2_with fail
    go_ret2
    exact ⟨by rw [unhide hv]; rfl, rfl⟩
  · have hv : Hid (clsAt 5 c = true) := by
      have := rc5_2n c.toNat c.toNat_lt r0 r1
      rwa [UInt8.ofNat_toNat] at this
    have f0 : ¬ (97 : Int) ≤ (c.toNat : Int) := by omega
    have f1 : (c.toNat : Int) ≤ 122 := by omega
    have f2 : ¬ (65 : Int) ≤ (c.toNat : Int) := by omega
    have f3 : (c.toNat : Int) ≤ 90 := by omega
    have f4 : (48 : Int) ≤ (c.toNat : Int) := by omega
    have f5 : (c.toNat : Int) ≤ 57 := by omega
    have f6 : (32 : Int) < (c.toNat : Int) := by omega
    have f7 : (c.toNat : Int) < 127 := by omega
    clear r0 r1 h255
    go_enter Tryz.func13, Tryz.ntmps13
    go_wp2_with fail
    go_ret2
    exact ⟨by rw [unhide hv]; rfl, rfl⟩
  · have hv : Hid (clsAt 5 c = true) := by
      have := rc5_3n c.toNat c.toNat_lt r0 r1
      rwa [UInt8.ofNat_toNat] at this
    have f0 : ¬ (97 : Int) ≤ (c.toNat : Int) := by omega
    have f1 : (c.toNat : Int) ≤ 122 := by omega
    have f2 : ¬ (65 : Int) ≤ (c.toNat : Int) := by omega
    have f3 : (c.toNat : Int) ≤ 90 := by omega
    have f4 : (48 : Int) ≤ (c.toNat : Int) := by omega
    have f5 : ¬ (c.toNat : Int) ≤ 57 := by omega
    have f6 : (32 : Int) < (c.toNat : Int) := by omega
    have f7 : (c.toNat : Int) < 127 := by omega
    clear r0 r1 h255
    go_enter Tryz.func13, Tryz.ntmps13
    go_wp2_with fail
    go_ret2
    exact ⟨by rw [unhide hv]; rfl, rfl⟩
  · have hv : Hid (clsAt 5 c = true) := by
      have := rc5_4n c.toNat c.toNat_lt r0 r1
      rwa [UInt8.ofNat_toNat] at this
    have f0 : ¬ (97 : Int) ≤ (c.toNat : Int) := by omega
    have f1 : (c.toNat : Int) ≤ 122 := by omega
    have f2 : (65 : Int) ≤ (c.toNat : Int) := by omega
    have f3 : (c.toNat : Int) ≤ 90 := by omega
    have f4 : (48 : Int) ≤ (c.toNat : Int) := by omega
    have f5 : ¬ (c.toNat : Int) ≤ 57 := by omega
    have f6 : (32 : Int) < (c.toNat : Int) := by omega
    have f7 : (c.toNat : Int) < 127 := by omega
    clear r0 r1 h255
    go_enter Tryz.func13, Tryz.ntmps13
    go_wp2_with fail
    go_ret2
    exact ⟨by rw [unhide hv]; rfl, rfl⟩
  · have hv : Hid (clsAt 5 c = true) := by
      have := rc5_5n c.toNat c.toNat_lt r0 r1
      rwa [UInt8.ofNat_toNat] at this
    have f0 : ¬ (97 : Int) ≤ (c.toNat : Int) := by omega
    have f1 : (c.toNat : Int) ≤ 122 := by omega
    have f2 : (65 : Int) ≤ (c.toNat : Int) := by omega
    have f3 : ¬ (c.toNat : Int) ≤ 90 := by omega
    have f4 : (48 : Int) ≤ (c.toNat : Int) := by omega
    have f5 : ¬ (c.toNat : Int) ≤ 57 := by omega
    have f6 : (32 : Int) < (c.toNat : Int) := by omega
    have f7 : (c.toNat : Int) < 127 := by omega
    clear r0 r1 h255
    go_enter Tryz.func13, Tryz.ntmps13
    go_wp2_with fail
    go_ret2
    exact ⟨by rw [unhide hv]; rfl, rfl⟩
  · have hv : Hid (clsAt 5 c = true) := by
      have := rc5_6n c.toNat c.toNat_lt r0 r1
      rwa [UInt8.ofNat_toNat] at this
    have f0 : (97 : Int) ≤ (c.toNat : Int) := by omega
    have f1 : (c.toNat : Int) ≤ 122 := by omega
    have f2 : (65 : Int) ≤ (c.toNat : Int) := by omega
    have f3 : ¬ (c.toNat : Int) ≤ 90 := by omega
    have f4 : (48 : Int) ≤ (c.toNat : Int) := by omega
    have f5 : ¬ (c.toNat : Int) ≤ 57 := by omega
    have f6 : (32 : Int) < (c.toNat : Int) := by omega
    have f7 : (c.toNat : Int) < 127 := by omega
    clear r0 r1 h255
    go_enter Tryz.func13, Tryz.ntmps13
    go_wp2_with fail
    go_ret2
    exact ⟨by rw [unhide hv]; rfl, rfl⟩
  · have hv : Hid (clsAt 5 c = true) := by
      have := rc5_7n c.toNat c.toNat_lt r0 r1
      rwa [UInt8.ofNat_toNat] at this
    have f0 : (97 : Int) ≤ (c.toNat : Int) := by omega
    have f1 : ¬ (c.toNat : Int) ≤ 122 := by omega
    have f2 : (65 : Int) ≤ (c.toNat : Int) := by omega
    have f3 : ¬ (c.toNat : Int) ≤ 90 := by omega
    have f4 : (48 : Int) ≤ (c.toNat : Int) := by omega
    have f5 : ¬ (c.toNat : Int) ≤ 57 := by omega
    have f6 : (32 : Int) < (c.toNat : Int) := by omega
    have f7 : (c.toNat : Int) < 127 := by omega
    clear r0 r1 h255
    go_enter Tryz.func13, Tryz.ntmps13
    go_wp2_with fail
    go_ret2
    exact ⟨by rw [unhide hv]; rfl, rfl⟩
  · have hv : Hid (clsAt 5 c = false) := by
      have := rc5_8n c.toNat c.toNat_lt r0 r1
      rwa [UInt8.ofNat_toNat] at this
    have f0 : (97 : Int) ≤ (c.toNat : Int) := by omega
    have f1 : ¬ (c.toNat : Int) ≤ 122 := by omega
    have f2 : (65 : Int) ≤ (c.toNat : Int) := by omega
    have f3 : ¬ (c.toNat : Int) ≤ 90 := by omega
    have f4 : (48 : Int) ≤ (c.toNat : Int) := by omega
    have f5 : ¬ (c.toNat : Int) ≤ 57 := by omega
    have f6 : (32 : Int) < (c.toNat : Int) := by omega
    have f7 : ¬ (c.toNat : Int) < 127 := by omega
    clear r0 r1 h255
    go_enter Tryz.func13, Tryz.ntmps13
    go_wp2_with fail
    go_ret2
    exact ⟨by rw [unhide hv]; rfl, rfl⟩
theorem rc6_0n : ∀ n, n < 256 → 0 ≤ n → n ≤ 47 → clsAt 6 (UInt8.ofNat n) = false := by decide +kernel
theorem rc6_1n : ∀ n, n < 256 → 48 ≤ n → n ≤ 57 → clsAt 6 (UInt8.ofNat n) = false := by decide +kernel
theorem rc6_2n : ∀ n, n < 256 → 58 ≤ n → n ≤ 64 → clsAt 6 (UInt8.ofNat n) = false := by decide +kernel
theorem rc6_3n : ∀ n, n < 256 → 65 ≤ n → n ≤ 90 → clsAt 6 (UInt8.ofNat n) = false := by decide +kernel
theorem rc6_4n : ∀ n, n < 256 → 91 ≤ n → n ≤ 96 → clsAt 6 (UInt8.ofNat n) = false := by decide +kernel
theorem rc6_5n : ∀ n, n < 256 → 97 ≤ n → n ≤ 122 → clsAt 6 (UInt8.ofNat n) = true := by decide +kernel
theorem rc6_6n : ∀ n, n < 256 → 123 ≤ n → n ≤ 255 → clsAt 6 (UInt8.ofNat n) = false := by decide +kernel
set_option maxHeartbeats 4000000 in
set_option maxRecDepth 100000 in
theorem refClass6 (c : UInt8) (w : World) :
    Calls Tryz.prog 13 #[.string { data := #[108, 111, 119, 101, 114] }, .int .u8 c.toNat] w fun e w' => e = .returned (.tuple #[.bool (clsAt 6 c), .bool true]) ∧ w' = w := by
  have h255 : c.toNat ≤ 255 := by have := c.toNat_lt; omega
  rcases (show (0 ≤ c.toNat ∧ c.toNat ≤ 47) ∨ (48 ≤ c.toNat ∧ c.toNat ≤ 57) ∨ (58 ≤ c.toNat ∧ c.toNat ≤ 64) ∨ (65 ≤ c.toNat ∧ c.toNat ≤ 90) ∨ (91 ≤ c.toNat ∧ c.toNat ≤ 96) ∨ (97 ≤ c.toNat ∧ c.toNat ≤ 122) ∨ (123 ≤ c.toNat ∧ c.toNat ≤ 255) from by omega) with ⟨r0, r1⟩ | ⟨r0, r1⟩ | ⟨r0, r1⟩ | ⟨r0, r1⟩ | ⟨r0, r1⟩ | ⟨r0, r1⟩ | ⟨r0, r1⟩
  · have hv : Hid (clsAt 6 c = false) := by
      have := rc6_0n c.toNat c.toNat_lt r0 r1
      rwa [UInt8.ofNat_toNat] at this
    have f0 : ¬ (97 : Int) ≤ (c.toNat : Int) := by omega
    have f1 : (c.toNat : Int) ≤ 122 := by omega
    have f2 : ¬ (65 : Int) ≤ (c.toNat : Int) := by omega
    have f3 : (c.toNat : Int) ≤ 90 := by omega
    have f4 : ¬ (48 : Int) ≤ (c.toNat : Int) := by omega
    have f5 : (c.toNat : Int) ≤ 57 := by omega
    clear r0 r1 h255
    go_enter Tryz.func13, Tryz.ntmps13
    go_wp2_with fail
    go_ret2
    exact ⟨by rw [unhide hv]; rfl, rfl⟩
  · have hv : Hid (clsAt 6 c = false) := by
      have := rc6_1n c.toNat c.toNat_lt r0 r1
      rwa [UInt8.ofNat_toNat] at this
    have f0 : ¬ (97 : Int) ≤ (c.toNat : Int) := by omega
    have f1 : (c.toNat : Int) ≤ 122 := by omega
    have f2 : ¬ (65 : Int) ≤ (c.toNat : Int) := by omega
    have f3 : (c.toNat : Int) ≤ 90 := by omega
    have f4 : (48 : Int) ≤ (c.toNat : Int) := by omega
    have f5 : (c.toNat : Int) ≤ 57 := by omega
    clear r0 r1 h255
    go_enter Tryz.func13, Tryz.ntmps13
    go_wp2_with fail
    go_ret2
    exact ⟨by rw [unhide hv]; rfl, rfl⟩
  · have hv : Hid (clsAt 6 c = false) := by
      have := rc6_2n c.toNat c.toNat_lt r0 r1
      rwa [UInt8.ofNat_toNat] at this
    have f0 : ¬ (97 : Int) ≤ (c.toNat : Int) := by omega
    have f1 : (c.toNat : Int) ≤ 122 := by omega
    have f2 : ¬ (65 : Int) ≤ (c.toNat : Int) := by omega
    have f3 : (c.toNat : Int) ≤ 90 := by omega
    have f4 : (48 : Int) ≤ (c.toNat : Int) := by omega
    have f5 : ¬ (c.toNat : Int) ≤ 57 := by omega
    clear r0 r1 h255
    go_enter Tryz.func13, Tryz.ntmps13
    go_wp2_with fail
    go_ret2
    exact ⟨by rw [unhide hv]; rfl, rfl⟩
  · have hv : Hid (clsAt 6 c = false) := by
      have := rc6_3n c.toNat c.toNat_lt r0 r1
      rwa [UInt8.ofNat_toNat] at this
    have f0 : ¬ (97 : Int) ≤ (c.toNat : Int) := by omega
    have f1 : (c.toNat : Int) ≤ 122 := by omega
    have f2 : (65 : Int) ≤ (c.toNat : Int) := by omega
    have f3 : (c.toNat : Int) ≤ 90 := by omega
    have f4 : (48 : Int) ≤ (c.toNat : Int) := by omega
    have f5 : ¬ (c.toNat : Int) ≤ 57 := by omega
    clear r0 r1 h255
    go_enter Tryz.func13, Tryz.ntmps13
    go_wp2_with fail
    go_ret2
    exact ⟨by rw [unhide hv]; rfl, rfl⟩
  · have hv : Hid (clsAt 6 c = false) := by
      have := rc6_4n c.toNat c.toNat_lt r0 r1
      rwa [UInt8.ofNat_toNat] at this
    have f0 : ¬ (97 : Int) ≤ (c.toNat : Int) := by omega
    have f1 : (c.toNat : Int) ≤ 122 := by omega
    have f2 : (65 : Int) ≤ (c.toNat : Int) := by omega
    have f3 : ¬ (c.toNat : Int) ≤ 90 := by omega
    have f4 : (48 : Int) ≤ (c.toNat : Int) := by omega
    have f5 : ¬ (c.toNat : Int) ≤ 57 := by omega
    clear r0 r1 h255
    go_enter Tryz.func13, Tryz.ntmps13
    go_wp2_with fail
    go_ret2
    exact ⟨by rw [unhide hv]; rfl, rfl⟩
  · have hv : Hid (clsAt 6 c = true) := by
      have := rc6_5n c.toNat c.toNat_lt r0 r1
      rwa [UInt8.ofNat_toNat] at this
    have f0 : (97 : Int) ≤ (c.toNat : Int) := by omega
    have f1 : (c.toNat : Int) ≤ 122 := by omega
    have f2 : (65 : Int) ≤ (c.toNat : Int) := by omega
    have f3 : ¬ (c.toNat : Int) ≤ 90 := by omega
    have f4 : (48 : Int) ≤ (c.toNat : Int) := by omega
    have f5 : ¬ (c.toNat : Int) ≤ 57 := by omega
    clear r0 r1 h255
    go_enter Tryz.func13, Tryz.ntmps13
    go_wp2_with fail
    go_ret2
    exact ⟨by rw [unhide hv]; rfl, rfl⟩
  · have hv : Hid (clsAt 6 c = false) := by
      have := rc6_6n c.toNat c.toNat_lt r0 r1
      rwa [UInt8.ofNat_toNat] at this
    have f0 : (97 : Int) ≤ (c.toNat : Int) := by omega
    have f1 : ¬ (c.toNat : Int) ≤ 122 := by omega
    have f2 : (65 : Int) ≤ (c.toNat : Int) := by omega
    have f3 : ¬ (c.toNat : Int) ≤ 90 := by omega
    have f4 : (48 : Int) ≤ (c.toNat : Int) := by omega
    have f5 : ¬ (c.toNat : Int) ≤ 57 := by omega
    clear r0 r1 h255
    go_enter Tryz.func13, Tryz.ntmps13
    go_wp2_with fail
    go_ret2
    exact ⟨by rw [unhide hv]; rfl, rfl⟩
end Go.Proofs.YtjgboecifonjdaaGreatDoor.Se
