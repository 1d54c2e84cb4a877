/- What the document's Class answers. -/
import Derived.Test.YtjgboecifonjdaaGreatDoorSeFacts
import Derived.WalkSpells
import Derived.BigQuiet
namespace Go.Proofs.YtjgboecifonjdaaGreatDoor.Se
open Go.RowKit

theorem rc10_0n : ∀ n, n < 256 → 0 ≤ n → n ≤ 47 → clsAt 10 (UInt8.ofNat n) = false := by decide +kernel
theorem rc10_1n : ∀ n, n < 256 → 48 ≤ n → n ≤ 57 → clsAt 10 (UInt8.ofNat n) = false := by decide +kernel
theorem rc10_2n : ∀ n, n < 256 → 58 ≤ n → n ≤ 64 → clsAt 10 (UInt8.ofNat n) = false := by decide +kernel
theorem rc10_3n : ∀ n, n < 256 → 65 ≤ n → n ≤ 90 → clsAt 10 (UInt8.ofNat n) = true := by decide +kernel
theorem rc10_4n : ∀ n, n < 256 → 91 ≤ n → n ≤ 96 → clsAt 10 (UInt8.ofNat n) = false := by decide +kernel
theorem rc10_5n : ∀ n, n < 256 → 97 ≤ n → n ≤ 122 → clsAt 10 (UInt8.ofNat n) = false := by decide +kernel
theorem rc10_6n : ∀ n, n < 256 → 123 ≤ n → n ≤ 255 → clsAt 10 (UInt8.ofNat n) = false := by decide +kernel
set_option maxHeartbeats 4000000 in
set_option maxRecDepth 100000 in
theorem refClass10 (c : UInt8) (w : World) :
    Calls Tryz.prog 13 #[.string { data := #[117, 112, 112, 101, 114] }, .int .u8 c.toNat] w fun e w' => e = .returned (.tuple #[.bool (clsAt 10 c), .bool true]) ∧ w' = w := by
  have h255 : c.toNat ≤ 255 := by have := c.toNat_lt; omega
  rcases (show (0 ≤ c.toNat ∧ c.toNat ≤ 47) ∨ (48 ≤ c.toNat ∧ c.toNat ≤ 57) ∨ (58 ≤ c.toNat ∧ c.toNat ≤ 64) ∨ (65 ≤ c.toNat ∧ c.toNat ≤ 90) ∨ (91 ≤ c.toNat ∧ c.toNat ≤ 96) ∨ (97 ≤ c.toNat ∧ c.toNat ≤ 122) ∨ (123 ≤ c.toNat ∧ c.toNat ≤ 255) from by omega) with ⟨r0, r1⟩ | ⟨r0, r1⟩ | ⟨r0, r1⟩ | ⟨r0, r1⟩ | ⟨r0, r1⟩ | ⟨r0, r1⟩ | ⟨r0, r1⟩
  · have hv : Hid (clsAt 10 c = false) := by
      have := rc10_0n c.toNat c.toNat_lt r0 r1
      rwa [UInt8.ofNat_toNat] at this
    have f0 : ¬ (97 : Int) ≤ (c.toNat : Int) := by omega
    have f1 : (c.toNat : Int) ≤ 122 := by omega
    have f2 : ¬ (65 : Int) ≤ (c.toNat : Int) := by omega
    have f3 : (c.toNat : Int) ≤ 90 := by omega
    have f4 : ¬ (48 : Int) ≤ (c.toNat : Int) := by omega
    have f5 : (c.toNat : Int) ≤ 57 := by omega
    clear r0 r1 h255
    go_enter Tryz.func13, Tryz.ntmps13
    go_wp2_with fail
    go_ret2
    exact ⟨by rw [unhide hv]; rfl, rfl⟩
  · have hv : Hid (clsAt 10 c = false) := by
      have := rc10_1n c.toNat c.toNat_lt r0 r1
      rwa [UInt8.ofNat_toNat] at this
    have f0 : ¬ (97 : Int) ≤ (c.toNat : Int) := by omega
    have f1 : (c.toNat : Int) ≤ 122 := by omega
    have f2 : ¬ (65 : Int) ≤ (c.toNat : Int) := by omega
    have f3 : (c.toNat : Int) ≤ 90 := by omega
    have f4 : (48 : Int) ≤ (c.toNat : Int) := by omega
    have f5 : (c.toNat : Int) ≤ 57 := by omega
    clear r0 r1 h255
    go_enter Tryz.func13, Tryz.ntmps13
    go_wp2_with fail
    go_ret2
    exact ⟨by rw [unhide hv]; rfl, rfl⟩
  · have hv : Hid (clsAt 10 c = false) := by
      have := rc10_2n c.toNat c.toNat_lt r0 r1
      rwa [UInt8.ofNat_toNat] at this
    have f0 : ¬ (97 : Int) ≤ (c.toNat : Int) := by omega
    have f1 : (c.toNat : Int) ≤ 122 := by omega
    have f2 : ¬ (65 : Int) ≤ (c.toNat : Int) := by omega
    have f3 : (c.toNat : Int) ≤ 90 := by omega
    have f4 : (48 : Int) ≤ (c.toNat : Int) := by omega
    have f5 : ¬ (c.toNat : Int) ≤ 57 := by omega
    clear r0 r1 h255
    go_enter Tryz.func13, Tryz.ntmps13
    go_wp2_with fail
    go_ret2
    exact ⟨by rw [unhide hv]; rfl, rfl⟩
  · have hv : Hid (clsAt 10 c = true) := by
      have := rc10_3n c.toNat c.toNat_lt r0 r1
      rwa [UInt8.ofNat_toNat] at this
    have f0 : ¬ (97 : Int) ≤ (c.toNat : Int) := by omega
    have f1 : (c.toNat : Int) ≤ 122 := by omega
    have f2 : (65 : Int) ≤ (c.toNat : Int) := by omega
    have f3 : (c.toNat : Int) ≤ 90 := by omega
    have f4 : (48 : Int) ≤ (c.toNat : Int) := by omega
    have f5 : ¬ (c.toNat : Int) ≤ 57 := by omega
    clear r0 r1 h255
    go_enter Tryz.func13, Tryz.ntmps13
    go_wp2_with fail
    go_ret2
    exact ⟨by rw [unhide hv]; rfl, rfl⟩
  · have hv : Hid (clsAt 10 c = false) := by
      have := rc10_4n c.toNat c.toNat_lt r0 r1
      rwa [UInt8.ofNat_toNat] at this
    have f0 : ¬ (97 : Int) ≤ (c.toNat : Int) := by omega
    have f1 : (c.toNat : Int) ≤ 122 := by omega
    have f2 : (65 : Int) ≤ (c.toNat : Int) := by omega
    have f3 : ¬ (c.toNat : Int) ≤ 90 := by omega
    have f4 : (48 : Int) ≤ (c.toNat : Int) := by omega
    have f5 : ¬ (c.toNat : Int) ≤ 57 := by omega
    clear r0 r1 h255
    go_enter Tryz.func13, Tryz.ntmps13
    go_wp2_with fail
    go_ret2
    exact ⟨by rw [unhide hv]; rfl, rfl⟩
  · have hv : Hid (clsAt 10 c = false) := by
      have := rc10_5n c.toNat c.toNat_lt r0 r1
      rwa [UInt8.ofNat_toNat] at this
    have f0 : (97 : Int) ≤ (c.toNat : Int) := by omega
    have f1 : (c.toNat : Int) ≤ 122 := by omega
    have f2 : (65 : Int) ≤ (c.toNat : Int) := by omega
    have f3 : ¬ (c.toNat : Int) ≤ 90 := by omega
    have f4 : (48 : Int) ≤ (c.toNat : Int) := by omega
    have f5 : ¬ (c.toNat : Int) ≤ 57 := by omega
    clear r0 r1 h255
    go_enter Tryz.func13, Tryz.ntmps13
    go_wp2_with fail
    go_ret2
    exact ⟨by rw [unhide hv]; rfl, rfl⟩
  · have hv : Hid (clsAt 10 c = false) := by
      have := rc10_6n c.toNat c.toNat_lt r0 r1
      rwa [UInt8.ofNat_toNat] at this
    have f0 : (97 : Int) ≤ (c.toNat : Int) := by omega
    have f1 : ¬ (c.toNat : Int) ≤ 122 := by omega
    have f2 : (65 : Int) ≤ (c.toNat : Int) := by omega
    have f3 : ¬ (c.toNat : Int) ≤ 90 := by omega
    have f4 : (48 : Int) ≤ (c.toNat : Int) := by omega
    have f5 : ¬ (c.toNat : Int) ≤ 57 := by omega
    clear r0 r1 h255
    go_enter Tryz.func13, Tryz.ntmps13
    go_wp2_with fail
    go_ret2
    exact ⟨by rw [unhide hv]; rfl, rfl⟩
theorem rc11_0n : ∀ n, n < 256 → 0 ≤ n → n ≤ 47 → clsAt 11 (UInt8.ofNat n) = false := by decide +kernel
theorem rc11_1n : ∀ n, n < 256 → 48 ≤ n → n ≤ 57 → clsAt 11 (UInt8.ofNat n) = true := by decide +kernel
theorem rc11_2n : ∀ n, n < 256 → 58 ≤ n → n ≤ 64 → clsAt 11 (UInt8.ofNat n) = false := by decide +kernel
theorem rc11_3n : ∀ n, n < 256 → 65 ≤ n → n ≤ 70 → clsAt 11 (UInt8.ofNat n) = true := by decide +kernel
theorem rc11_4n : ∀ n, n < 256 → 71 ≤ n → n ≤ 90 → clsAt 11 (UInt8.ofNat n) = false := by decide +kernel
theorem rc11_5n : ∀ n, n < 256 → 91 ≤ n → n ≤ 96 → clsAt 11 (UInt8.ofNat n) = false := by decide +kernel
theorem rc11_6n : ∀ n, n < 256 → 97 ≤ n → n ≤ 102 → clsAt 11 (UInt8.ofNat n) = true := by decide +kernel
theorem rc11_7n : ∀ n, n < 256 → 103 ≤ n → n ≤ 122 → clsAt 11 (UInt8.ofNat n) = false := by decide +kernel
theorem rc11_8n : ∀ n, n < 256 → 123 ≤ n → n ≤ 255 → clsAt 11 (UInt8.ofNat n) = false := by decide +kernel
set_option maxHeartbeats 4000000 in
set_option maxRecDepth 100000 in
theorem refClass11 (c : UInt8) (w : World) :
    Calls Tryz.prog 13 #[.string { data := #[120, 100, 105, 103, 105, 116] }, .int .u8 c.toNat] w fun e w' => e = .returned (.tuple #[.bool (clsAt 11 c), .bool true]) ∧ w' = w := by
  have h255 : c.toNat ≤ 255 := by have := c.toNat_lt; omega
  rcases (show (0 ≤ c.toNat ∧ c.toNat ≤ 47) ∨ (48 ≤ c.toNat ∧ c.toNat ≤ 57) ∨ (58 ≤ c.toNat ∧ c.toNat ≤ 64) ∨ (65 ≤ c.toNat ∧ c.toNat ≤ 70) ∨ (71 ≤ c.toNat ∧ c.toNat ≤ 90) ∨ (91 ≤ c.toNat ∧ c.toNat ≤ 96) ∨ (97 ≤ c.toNat ∧ c.toNat ≤ 102) ∨ (103 ≤ c.toNat ∧ c.toNat ≤ 122) ∨ (123 ≤ c.toNat ∧ c.toNat ≤ 255) from by omega) with ⟨r0, r1⟩ | ⟨r0, r1⟩ | ⟨r0, r1⟩ | ⟨r0, r1⟩ | ⟨r0, r1⟩ | ⟨r0, r1⟩ | ⟨r0, r1⟩ | ⟨r0, r1⟩ | ⟨r0, r1⟩
  · have hv : Hid (clsAt 11 c = false) := by
      have := rc11_0n c.toNat c.toNat_lt r0 r1
      rwa [UInt8.ofNat_toNat] at this
    have f0 : ¬ (97 : Int) ≤ (c.toNat : Int) := by omega
    have f1 : (c.toNat : Int) ≤ 122 := by omega
    have f2 : ¬ (65 : Int) ≤ (c.toNat : Int) := by omega
    have f3 : (c.toNat : Int) ≤ 90 := by omega
    have f4 : ¬ (48 : Int) ≤ (c.toNat : Int) := by omega
    have f5 : (c.toNat : Int) ≤ 57 := by omega
    have f6 : (c.toNat : Int) ≤ 70 := by omega
    have f7 : (c.toNat : Int) ≤ 102 := by omega
    clear r0 r1 h255
    go_enter Tryz.func13, Tryz.ntmps13
    go_wp2_with fail
    go_ret2
    exact ⟨by rw [unhide hv]; rfl, rfl⟩
  · have hv : Hid (clsAt 11 c = true) := by
      have := rc11_1n c.toNat c.toNat_lt r0 r1
      rwa [UInt8.ofNat_toNat] at this
    have f0 : ¬ (97 : Int) ≤ (c.toNat : Int) := by omega
    have f1 : (c.toNat : Int) ≤ 122 := by omega
    have f2 : ¬ (65 : Int) ≤ (c.toNat : Int) := by omega
    have f3 : (c.toNat : Int) ≤ 90 := by omega
    have f4 : (48 : Int) ≤ (c.toNat : Int) := by omega
    have f5 : (c.toNat : Int) ≤ 57 := by omega
    have f6 : (c.toNat : Int) ≤ 70 := by omega
    have f7 : (c.toNat : Int) ≤ 102 := by omega
    clear r0 r1 h255
    go_enter Tryz.func13, Tryz.ntmps13
    go_wp2_with fail
    go_ret2
    exact ⟨by rw [unhide hv]; rfl, rfl⟩
  · have hv : Hid (clsAt 11 c = false) := by
      have := rc11_2n c.toNat c.toNat_lt r0 r1
      rwa [UInt8.ofNat_toNat] at this
    have f0 : ¬ (97 : Int) ≤ (c.toNat : Int) := by omega
    have f1 : (c.toNat : Int) ≤ 122 := by omega
    have f2 : ¬ (65 : Int) ≤ (c.toNat : Int) := by omega
    have f3 : (c.toNat : Int) ≤ 90 := by omega
    have f4 : (48 : Int) ≤ (c.toNat : Int) := by omega
    have f5 : ¬ (c.toNat : Int) ≤ 57 := by omega
    have f6 : (c.toNat : Int) ≤ 70 := by omega
    have f7 : (c.toNat : Int) ≤ 102 := by omega
    clear r0 r1 h255
    go_enter Tryz.func13, Tryz.ntmps13
    go_wp2_with fail
    go_ret2
    exact ⟨by rw [unhide hv]; rfl, rfl⟩
  · have hv : Hid (clsAt 11 c = true) := by
      have := rc11_3n c.toNat c.toNat_lt r0 r1
      rwa [UInt8.ofNat_toNat] at this
    have f0 : ¬ (97 : Int) ≤ (c.toNat : Int) := by omega
    have f1 : (c.toNat : Int) ≤ 122 := by omega
    have f2 : (65 : Int) ≤ (c.toNat : Int) := by omega
    have f3 : (c.toNat : Int) ≤ 90 := by omega
    have f4 : (48 : Int) ≤ (c.toNat : Int) := by omega
    have f5 : ¬ (c.toNat : Int) ≤ 57 := by omega
    have f6 : (c.toNat : Int) ≤ 70 := by omega
    have f7 : (c.toNat : Int) ≤ 102 := by omega
    clear r0 r1 h255
    go_enter Tryz.func13, Tryz.ntmps13
    go_wp2_with fail
    go_ret2
    exact ⟨by rw [unhide hv]; rfl, rfl⟩
  · have hv : Hid (clsAt 11 c = false) := by
      have := rc11_4n c.toNat c.toNat_lt r0 r1
      rwa [UInt8.ofNat_toNat] at this
    have f0 : ¬ (97 : Int) ≤ (c.toNat : Int) := by omega
    have f1 : (c.toNat : Int) ≤ 122 := by omega
    have f2 : (65 : Int) ≤ (c.toNat : Int) := by omega
    have f3 : (c.toNat : Int) ≤ 90 := by omega
    have f4 : (48 : Int) ≤ (c.toNat : Int) := by omega
    have f5 : ¬ (c.toNat : Int) ≤ 57 := by omega
    have f6 : ¬ (c.toNat : Int) ≤ 70 := by omega
    have f7 : (c.toNat : Int) ≤ 102 := by omega
    clear r0 r1 h255
    go_enter Tryz.func13, Tryz.ntmps13
    go_wp2_with fail
    go_ret2
    exact ⟨by rw [unhide hv]; rfl, rfl⟩
  · have hv : Hid (clsAt 11 c = false) := by
      have := rc11_5n c.toNat c.toNat_lt r0 r1
      rwa [UInt8.ofNat_toNat] at this
    have f0 : ¬ (97 : Int) ≤ (c.toNat : Int) := by omega
    have f1 : (c.toNat : Int) ≤ 122 := by omega
    have f2 : (65 : Int) ≤ (c.toNat : Int) := by omega
    have f3 : ¬ (c.toNat : Int) ≤ 90 := by omega
    have f4 : (48 : Int) ≤ (c.toNat : Int) := by omega
    have f5 : ¬ (c.toNat : Int) ≤ 57 := by omega
    have f6 : ¬ (c.toNat : Int) ≤ 70 := by omega
    have f7 : (c.toNat : Int) ≤ 102 := by omega
    clear r0 r1 h255
    go_enter Tryz.func13, Tryz.ntmps13
    go_wp2_with fail
    go_ret2
    exact ⟨by rw [unhide hv]; rfl, rfl⟩
  · have hv : Hid (clsAt 11 c = true) := by
      have := rc11_6n c.toNat c.toNat_lt r0 r1
      rwa [UInt8.ofNat_toNat] at this
    have f0 : (97 : Int) ≤ (c.toNat : Int) := by omega
    have f1 : (c.toNat : Int) ≤ 122 := by omega
    have f2 : (65 : Int) ≤ (c.toNat : Int) := by omega
    have f3 : ¬ (c.toNat : Int) ≤ 90 := by omega
    have f4 : (48 : Int) ≤ (c.toNat : Int) := by omega
    have f5 : ¬ (c.toNat : Int) ≤ 57 := by omega
    have f6 : ¬ (c.toNat : Int) ≤ 70 := by omega
    have f7 : (c.toNat : Int) ≤ 102 := by omega
    clear r0 r1 h255
    go_enter Tryz.func13, Tryz.ntmps13
    go_wp2_with fail
    go_ret2
    exact ⟨by rw [unhide hv]; rfl, rfl⟩
  · have hv : Hid (clsAt 11 c = false) := by
      have := rc11_7n c.toNat c.toNat_lt r0 r1
      rwa [UInt8.ofNat_toNat] at this
    have f0 : (97 : Int) ≤ (c.toNat : Int) := by omega
    have f1 : (c.toNat : Int) ≤ 122 := by omega
    have f2 : (65 : Int) ≤ (c.toNat : Int) := by omega
    have f3 : ¬ (c.toNat : Int) ≤ 90 := by omega
    have f4 : (48 : Int) ≤ (c.toNat : Int) := by omega
    have f5 : ¬ (c.toNat : Int) ≤ 57 := by omega
    have f6 : ¬ (c.toNat : Int) ≤ 70 := by omega
    have f7 : ¬ (c.toNat : Int) ≤ 102 := by omega
    clear r0 r1 h255
    go_enter Tryz.func13, Tryz.ntmps13
    go_wp2_with fail
    go_ret2
    exact ⟨by rw [unhide hv]; rfl, rfl⟩
  · have hv : Hid (clsAt 11 c = false) := by
      have := rc11_8n c.toNat c.toNat_lt r0 r1
      rwa [UInt8.ofNat_toNat] at this
    have f0 : (97 : Int) ≤ (c.toNat : Int) := by omega
    have f1 : ¬ (c.toNat : Int) ≤ 122 := by omega
    have f2 : (65 : Int) ≤ (c.toNat : Int) := by omega
    have f3 : ¬ (c.toNat : Int) ≤ 90 := by omega
    have f4 : (48 : Int) ≤ (c.toNat : Int) := by omega
    have f5 : ¬ (c.toNat : Int) ≤ 57 := by omega
    have f6 : ¬ (c.toNat : Int) ≤ 70 := by omega
    have f7 : ¬ (c.toNat : Int) ≤ 102 := by omega
    clear r0 r1 h255
    go_enter Tryz.func13, Tryz.ntmps13
    go_wp2_with fail
    go_ret2
    exact ⟨by rw [unhide hv]; rfl, rfl⟩
set_option maxHeartbeats 4000000 in
set_option maxRecDepth 100000 in
theorem refClass12 (c : UInt8) (name : ByteArray) (t0 : (name.toList == [97, 108, 112, 104, 97]) = false) (t1 : (name.toList == [97, 108, 110, 117, 109]) = false) (t2 : (name.toList == [98, 108, 97, 110, 107]) = false) (t3 : (name.toList == [99, 110, 116, 114, 108]) = false) (t4 : (name.toList == [100, 105, 103, 105, 116]) = false) (t5 : (name.toList == [103, 114, 97, 112, 104]) = false) (t6 : (name.toList == [108, 111, 119, 101, 114]) = false) (t7 : (name.toList == [112, 114, 105, 110, 116]) = false) (t8 : (name.toList == [112, 117, 110, 99, 116]) = false) (t9 : (name.toList == [115, 112, 97, 99, 101]) = false) (t10 : (name.toList == [117, 112, 112, 101, 114]) = false) (t11 : (name.toList == [120, 100, 105, 103, 105, 116]) = false) (w : World) :
    Calls Tryz.prog 13 #[.string name, .int .u8 c.toNat] w fun e w' => e = .returned (.tuple #[.bool false, .bool false]) ∧ w' = w := by
  have h255 : c.toNat ≤ 255 := by have := c.toNat_lt; omega
  rcases (show (0 ≤ c.toNat ∧ c.toNat ≤ 47) ∨ (48 ≤ c.toNat ∧ c.toNat ≤ 57) ∨ (58 ≤ c.toNat ∧ c.toNat ≤ 64) ∨ (65 ≤ c.toNat ∧ c.toNat ≤ 90) ∨ (91 ≤ c.toNat ∧ c.toNat ≤ 96) ∨ (97 ≤ c.toNat ∧ c.toNat ≤ 122) ∨ (123 ≤ c.toNat ∧ c.toNat ≤ 255) from by omega) with ⟨r0, r1⟩ | ⟨r0, r1⟩ | ⟨r0, r1⟩ | ⟨r0, r1⟩ | ⟨r0, r1⟩ | ⟨r0, r1⟩ | ⟨r0, r1⟩
  · skip
    have f0 : ¬ (97 : Int) ≤ (c.toNat : Int) := by omega
    have f1 : (c.toNat : Int) ≤ 122 := by omega
    have f2 : ¬ (65 : Int) ≤ (c.toNat : Int) := by omega
    have f3 : (c.toNat : Int) ≤ 90 := by omega
    have f4 : ¬ (48 : Int) ≤ (c.toNat : Int) := by omega
    have f5 : (c.toNat : Int) ≤ 57 := by omega
    clear r0 r1 h255
    go_enter Tryz.func13, Tryz.ntmps13
    go_wp2_with fail
    go_ret2
    exact ⟨rfl, rfl⟩
  · skip
    have f0 : ¬ (97 : Int) ≤ (c.toNat : Int) := by omega
    have f1 : (c.toNat : Int) ≤ 122 := by omega
    have f2 : ¬ (65 : Int) ≤ (c.toNat : Int) := by omega
    have f3 : (c.toNat : Int) ≤ 90 := by omega
    have f4 : (48 : Int) ≤ (c.toNat : Int) := by omega
    have f5 : (c.toNat : Int) ≤ 57 := by omega
    clear r0 r1 h255
    go_enter Tryz.func13, Tryz.ntmps13
    go_wp2_with fail
    go_ret2
    exact ⟨rfl, rfl⟩
  · skip
    have f0 : ¬ (97 : Int) ≤ (c.toNat : Int) := by omega
    have f1 : (c.toNat : Int) ≤ 122 := by omega
    have f2 : ¬ (65 : Int) ≤ (c.toNat : Int) := by omega
    have f3 : (c.toNat : Int) ≤ 90 := by omega
    have f4 : (48 : Int) ≤ (c.toNat : Int) := by omega
    have f5 : ¬ (c.toNat : Int) ≤ 57 := by omega
    clear r0 r1 h255
    go_enter Tryz.func13, Tryz.ntmps13
    go_wp2_with fail
    go_ret2
    exact ⟨rfl, rfl⟩
  · skip
    have f0 : ¬ (97 : Int) ≤ (c.toNat : Int) := by omega
    have f1 : (c.toNat : Int) ≤ 122 := by omega
    have f2 : (65 : Int) ≤ (c.toNat : Int) := by omega
    have f3 : (c.toNat : Int) ≤ 90 := by omega
    have f4 : (48 : Int) ≤ (c.toNat : Int) := by omega
    have f5 : ¬ (c.toNat : Int) ≤ 57 := by omega
    clear r0 r1 h255
    go_enter Tryz.func13, Tryz.ntmps13
    go_wp2_with fail
    go_ret2
    exact ⟨rfl, rfl⟩
  · skip
    have f0 : ¬ (97 : Int) ≤ (c.toNat : Int) := by omega
    have f1 : (c.toNat : Int) ≤ 122 := by omega
    have f2 : (65 : Int) ≤ (c.toNat : Int) := by omega
    have f3 : ¬ (c.toNat : Int) ≤ 90 := by omega
    have f4 : (48 : Int) ≤ (c.toNat : Int) := by omega
    have f5 : ¬ (c.toNat : Int) ≤ 57 := by omega
    clear r0 r1 h255
    go_enter Tryz.func13, Tryz.ntmps13
    go_wp2_with fail
    go_ret2
    exact ⟨rfl, rfl⟩
  · skip
    have f0 : (97 : Int) ≤ (c.toNat : Int) := by omega
    have f1 : (c.toNat : Int) ≤ 122 := by omega
    have f2 : (65 : Int) ≤ (c.toNat : Int) := by omega
    have f3 : ¬ (c.toNat : Int) ≤ 90 := by omega
    have f4 : (48 : Int) ≤ (c.toNat : Int) := by omega
    have f5 : ¬ (c.toNat : Int) ≤ 57 := by omega
    clear r0 r1 h255
    go_enter Tryz.func13, Tryz.ntmps13
    go_wp2_with fail
    go_ret2
    exact ⟨rfl, rfl⟩
  · skip
    have f0 : (97 : Int) ≤ (c.toNat : Int) := by omega
    have f1 : ¬ (c.toNat : Int) ≤ 122 := by omega
    have f2 : (65 : Int) ≤ (c.toNat : Int) := by omega
    have f3 : ¬ (c.toNat : Int) ≤ 90 := by omega
    have f4 : (48 : Int) ≤ (c.toNat : Int) := by omega
    have f5 : ¬ (c.toNat : Int) ≤ 57 := by omega
    clear r0 r1 h255
    go_enter Tryz.func13, Tryz.ntmps13
    go_wp2_with fail
    go_ret2
    exact ⟨rfl, rfl⟩
end Go.Proofs.YtjgboecifonjdaaGreatDoor.Se
