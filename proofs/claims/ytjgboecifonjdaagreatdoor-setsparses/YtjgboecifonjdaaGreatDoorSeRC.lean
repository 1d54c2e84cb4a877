/- What the document's Class answers, whatever the name. -/
import Derived.Test.YtjgboecifonjdaaGreatDoorSeRCA
import Derived.Test.YtjgboecifonjdaaGreatDoorSeRCB
import Derived.Test.YtjgboecifonjdaaGreatDoorSeRCC
import Derived.Test.YtjgboecifonjdaaGreatDoorSeRCD
import Derived.Test.YtjgboecifonjdaaGreatDoorSeRead
namespace Go.Proofs.YtjgboecifonjdaaGreatDoor.Se
open Go.RowKit

theorem look_cases (n : Bs) : (n = [97, 108, 112, 104, 97] ∧ clsOf n = some (clsAt 0)) ∨ (n = [97, 108, 110, 117, 109] ∧ clsOf n = some (clsAt 1)) ∨ (n = [98, 108, 97, 110, 107] ∧ clsOf n = some (clsAt 2)) ∨ (n = [99, 110, 116, 114, 108] ∧ clsOf n = some (clsAt 3)) ∨ (n = [100, 105, 103, 105, 116] ∧ clsOf n = some (clsAt 4)) ∨ (n = [103, 114, 97, 112, 104] ∧ clsOf n = some (clsAt 5)) ∨ (n = [108, 111, 119, 101, 114] ∧ clsOf n = some (clsAt 6)) ∨ (n = [112, 114, 105, 110, 116] ∧ clsOf n = some (clsAt 7)) ∨ (n = [112, 117, 110, 99, 116] ∧ clsOf n = some (clsAt 8)) ∨ (n = [115, 112, 97, 99, 101] ∧ clsOf n = some (clsAt 9)) ∨ (n = [117, 112, 112, 101, 114] ∧ clsOf n = some (clsAt 10)) ∨ (n = [120, 100, 105, 103, 105, 116] ∧ clsOf n = some (clsAt 11)) ∨ (clsOf n = none ∧ n ≠ [97, 108, 112, 104, 97] ∧ n ≠ [97, 108, 110, 117, 109] ∧ n ≠ [98, 108, 97, 110, 107] ∧ n ≠ [99, 110, 116, 114, 108] ∧ n ≠ [100, 105, 103, 105, 116] ∧ n ≠ [103, 114, 97, 112, 104] ∧ n ≠ [108, 111, 119, 101, 114] ∧ n ≠ [112, 114, 105, 110, 116] ∧ n ≠ [112, 117, 110, 99, 116] ∧ n ≠ [115, 112, 97, 99, 101] ∧ n ≠ [117, 112, 112, 101, 114] ∧ n ≠ [120, 100, 105, 103, 105, 116]) := by
  by_cases h0 : n = [97, 108, 112, 104, 97]
  · exact .inl ⟨h0, by rw [h0]; rfl⟩
  by_cases h1 : n = [97, 108, 110, 117, 109]
  · exact .inr (.inl ⟨h1, by rw [h1]; rfl⟩)
  by_cases h2 : n = [98, 108, 97, 110, 107]
  · exact .inr (.inr (.inl ⟨h2, by rw [h2]; rfl⟩))
  by_cases h3 : n = [99, 110, 116, 114, 108]
  · exact .inr (.inr (.inr (.inl ⟨h3, by rw [h3]; rfl⟩)))
  by_cases h4 : n = [100, 105, 103, 105, 116]
  · exact .inr (.inr (.inr (.inr (.inl ⟨h4, by rw [h4]; rfl⟩))))
  by_cases h5 : n = [103, 114, 97, 112, 104]
  · exact .inr (.inr (.inr (.inr (.inr (.inl ⟨h5, by rw [h5]; rfl⟩)))))
  by_cases h6 : n = [108, 111, 119, 101, 114]
  · exact .inr (.inr (.inr (.inr (.inr (.inr (.inl ⟨h6, by rw [h6]; rfl⟩))))))
  by_cases h7 : n = [112, 114, 105, 110, 116]
  · exact .inr (.inr (.inr (.inr (.inr (.inr (.inr (.inl ⟨h7, by rw [h7]; rfl⟩)))))))
  by_cases h8 : n = [112, 117, 110, 99, 116]
  · exact .inr (.inr (.inr (.inr (.inr (.inr (.inr (.inr (.inl ⟨h8, by rw [h8]; rfl⟩))))))))
  by_cases h9 : n = [115, 112, 97, 99, 101]
  · exact .inr (.inr (.inr (.inr (.inr (.inr (.inr (.inr (.inr (.inl ⟨h9, by rw [h9]; rfl⟩)))))))))
  by_cases h10 : n = [117, 112, 112, 101, 114]
  · exact .inr (.inr (.inr (.inr (.inr (.inr (.inr (.inr (.inr (.inr (.inl ⟨h10, by rw [h10]; rfl⟩))))))))))
  by_cases h11 : n = [120, 100, 105, 103, 105, 116]
  · exact .inr (.inr (.inr (.inr (.inr (.inr (.inr (.inr (.inr (.inr (.inr (.inl ⟨h11, by rw [h11]; rfl⟩)))))))))))
  refine .inr (.inr (.inr (.inr (.inr (.inr (.inr (.inr (.inr (.inr (.inr (.inr (⟨?_, h0, h1, h2, h3, h4, h5, h6, h7, h8, h9, h10, h11⟩))))))))))))
  simp [clsOf, clsL, look, h0, h1, h2, h3, h4, h5, h6, h7, h8, h9, h10, h11]
theorem ne_list {name : ByteArray} {l : Bs} (h : bs name ≠ l) : (name.toList == l) = false := by
  rw [ByteArray.toList_eq]; simpa using h
/-- what Class hands back -/
def ClR (o : Option (UInt8 → Bool)) (c : UInt8) (e : Ending) : Prop := (o = none ∧ e = .returned (.tuple #[.bool false, .bool false])) ∨ ∃ p, o = some p ∧ e = .returned (.tuple #[.bool (p c), .bool true])
theorem refClass_any (name : ByteArray) (c : UInt8) (w : World) : Calls Tryz.prog 13 #[.string name, .int .u8 c.toNat] w fun e w' => ClR (clsOf (bs name)) c e ∧ w' = w := by
  rcases look_cases (bs name) with ⟨h, h2⟩ | ⟨h, h2⟩ | ⟨h, h2⟩ | ⟨h, h2⟩ | ⟨h, h2⟩ | ⟨h, h2⟩ | ⟨h, h2⟩ | ⟨h, h2⟩ | ⟨h, h2⟩ | ⟨h, h2⟩ | ⟨h, h2⟩ | ⟨h, h2⟩ | ⟨hN, h0, h1, h2, h3, h4, h5, h6, h7, h8, h9, h10, h11⟩
  · obtain rfl : name = { data := #[97, 108, 112, 104, 97] } := ba_ext h
    exact (refClass0 c w).mono fun e w' hh => ⟨.inr ⟨_, h2, hh.1⟩, hh.2⟩
  · obtain rfl : name = { data := #[97, 108, 110, 117, 109] } := ba_ext h
    exact (refClass1 c w).mono fun e w' hh => ⟨.inr ⟨_, h2, hh.1⟩, hh.2⟩
  · obtain rfl : name = { data := #[98, 108, 97, 110, 107] } := ba_ext h
    exact (refClass2 c w).mono fun e w' hh => ⟨.inr ⟨_, h2, hh.1⟩, hh.2⟩
  · obtain rfl : name = { data := #[99, 110, 116, 114, 108] } := ba_ext h
    exact (refClass3 c w).mono fun e w' hh => ⟨.inr ⟨_, h2, hh.1⟩, hh.2⟩
  · obtain rfl : name = { data := #[100, 105, 103, 105, 116] } := ba_ext h
    exact (refClass4 c w).mono fun e w' hh => ⟨.inr ⟨_, h2, hh.1⟩, hh.2⟩
  · obtain rfl : name = { data := #[103, 114, 97, 112, 104] } := ba_ext h
    exact (refClass5 c w).mono fun e w' hh => ⟨.inr ⟨_, h2, hh.1⟩, hh.2⟩
  · obtain rfl : name = { data := #[108, 111, 119, 101, 114] } := ba_ext h
    exact (refClass6 c w).mono fun e w' hh => ⟨.inr ⟨_, h2, hh.1⟩, hh.2⟩
  · obtain rfl : name = { data := #[112, 114, 105, 110, 116] } := ba_ext h
    exact (refClass7 c w).mono fun e w' hh => ⟨.inr ⟨_, h2, hh.1⟩, hh.2⟩
  · obtain rfl : name = { data := #[112, 117, 110, 99, 116] } := ba_ext h
    exact (refClass8 c w).mono fun e w' hh => ⟨.inr ⟨_, h2, hh.1⟩, hh.2⟩
  · obtain rfl : name = { data := #[115, 112, 97, 99, 101] } := ba_ext h
    exact (refClass9 c w).mono fun e w' hh => ⟨.inr ⟨_, h2, hh.1⟩, hh.2⟩
  · obtain rfl : name = { data := #[117, 112, 112, 101, 114] } := ba_ext h
    exact (refClass10 c w).mono fun e w' hh => ⟨.inr ⟨_, h2, hh.1⟩, hh.2⟩
  · obtain rfl : name = { data := #[120, 100, 105, 103, 105, 116] } := ba_ext h
    exact (refClass11 c w).mono fun e w' hh => ⟨.inr ⟨_, h2, hh.1⟩, hh.2⟩
  · exact (refClass12 c name (ne_list h0) (ne_list h1) (ne_list h2) (ne_list h3) (ne_list h4) (ne_list h5) (ne_list h6) (ne_list h7) (ne_list h8) (ne_list h9) (ne_list h10) (ne_list h11) w).mono fun e w' hh => ⟨.inl ⟨hN, hh.1⟩, hh.2⟩
end Go.Proofs.YtjgboecifonjdaaGreatDoor.Se
