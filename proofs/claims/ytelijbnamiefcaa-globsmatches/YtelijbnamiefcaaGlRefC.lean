/- Where a bracket ends: what the document's closing answers. -/
import Derived.Test.YtelijbnamiefcaaGlRefB
namespace Go.Proofs.Ytelijbnamiefcaa.Gl
open Go.RowKit

def fromP (s : Bs) (k : Nat) : Nat := k + 1 + (bang (s.drop (k + 1))).toNat
def endP (s : Bs) (k : Nat) : Nat := (s.drop (fromP s k + 1)).idxOf 93
theorem idx_step (R : Bs) (j : Nat) (h : j < R.length) (hc : R[j] ≠ 93) : (R.drop j).idxOf 93 = (R.drop (j + 1)).idxOf 93 + 1 := by
  rw [List.drop_eq_getElem_cons h, List.idxOf_cons]
  have : (R[j] == 93) = false := by simpa using hc
  rw [this]; rfl
theorem idx_here (R : Bs) (j : Nat) (h : j < R.length) (hc : R[j] = 93) : (R.drop j).idxOf 93 = 0 := by
  rw [List.drop_eq_getElem_cons h, List.idxOf_cons, hc]; rfl
set_option maxHeartbeats 400000 in
set_option maxRecDepth 100000 in
theorem closing_any (s : ByteArray) (k : Nat) (w : World) (hs : s.size ≤ 5000) (hk : k < s.size) :
    Calls Try.prog 28 #[.string s, .int .i64 k] w fun e w' => e = .returned (if fromP (bs s) k + 1 + endP (bs s) k < s.size then Value.tuple #[.int .i64 (fromP (bs s) k : Int), .int .i64 ((fromP (bs s) k + 1 + endP (bs s) k : Nat) : Int), .bool true] else .tuple #[.int .i64 0, .int .i64 0, .bool false]) ∧ w' = w := by
  obtain ⟨F, hF⟩ : ∃ F, F = fromP (bs s) k := ⟨_, rfl⟩
  obtain ⟨E, hE⟩ : ∃ E, E = endP (bs s) k := ⟨_, rfl⟩
  have HE : Hid (E = ((bs s).drop (F + 1)).idxOf 93) := by rw [hE, hF]; rfl
  rw [← hF, ← hE]
  clear hE
  obtain ⟨V, hV⟩ : ∃ V, V = (if F + 1 + E < s.size then Value.tuple #[.int .i64 (F : Int), .int .i64 ((F + 1 + E : Nat) : Int), .bool true] else .tuple #[.int .i64 0, .int .i64 0, .bool false]) := ⟨_, rfl⟩
  rw [← hV]
  have HV := hide hV
  clear hV
  by_cases h1 : k + 1 < s.size
  · have h1' : (k : Int) + 1 < (s.size : Int) := by omega
    have hat := bs_at s (k + 1) h1
    by_cases h33 : s[k + 1] = 33
    · have hc33 : (s[k + 1].toNat : Int) = 33 := by rw [h33]; rfl
      obtain rfl : F = k + 2 := by rw [hF]; unfold fromP; rw [hat, h33]; rfl
      clear hF hat h33
      generalize hFe : k + 2 = F at *
      have hFi : (k : Int) + 1 + 1 = (F : Int) := by omega
      go_enter Try.func28, Try.ntmps28
      go_wp2_with fail
      go_loopw [8] (fun v8 wr => ∃ j : Nat, (j = 0 ∨ F + 1 + j ≤ s.size) ∧ v8 = .int .i64 ((F + 1 + j : Nat) : Int) ∧ wr = w ∧ Hid (E = j + ((bs s).drop (F + 1 + j)).idxOf 93)) (fun v8 _ => s.size - (intOf v8).toNat)
      case atStart => exact ⟨0, .inl rfl, by go_num, rfl, by rw [Nat.zero_add]; exact unhide HE⟩
      case round =>
        obtain ⟨j, hj, rfl, rfl, hI⟩ := hrel
        generalize hIe : F + 1 + j = i at *
        by_cases hlt : i < s.size
        · have hlt' : (i : Int) < (s.size : Int) := by omega
          by_cases h93 : s[i] = 93
          · have hc : (s[i].toNat : Int) = 93 := by rw [h93]; rfl
            have hEj : Hid (E = j) := by
              show _ = _
              rw [unhide hI, idx_here (bs s) i hlt h93]; rfl
            have hans : Hid (V = .tuple #[.int .i64 (F : Int), .int .i64 (i : Int), .bool true]) := by
              show _ = _
              rw [unhide HV, unhide hEj, hIe, if_pos hlt]
            clear h93 hI hEj hIe
            go_wp2_with fail
            go_ret3
            exact ⟨by rw [unhide hans]; rfl, rfl⟩
          · have hc : ¬ (s[i].toNat : Int) = 93 := fun e => h93 (u8_eq e)
            have hI2 : Hid (E = j + 1 + ((bs s).drop (F + 1 + (j + 1))).idxOf 93) := by
              show _ = _
              rw [show F + 1 + (j + 1) = i + 1 by omega, unhide hI, idx_step (bs s) i hlt h93]; omega
            have hIi : Hid (F + 1 + (j + 1) = i + 1) := by show _ = _; omega
            clear h93 hI hIe
            go_wp2_with fail
            go_roundw
            case rel => exact ⟨j + 1, .inr (by have := unhide hIi; omega), by rw [unhide hIi]; go_num, by trivial, hI2⟩
            case measure => simp [intOf]; omega
        · have hlt' : ¬ (i : Int) < (s.size : Int) := by omega
          have hans : Hid (V = .tuple #[.int .i64 0, .int .i64 0, .bool false]) := by
            show _ = _
            rw [unhide HV, if_neg (by rw [unhide hI]; omega)]
          clear hI hIe
          go_wp2_with fail
          go_ret3
          exact ⟨by rw [unhide hans]; rfl, rfl⟩
    · have hc33 : ¬ (s[k + 1].toNat : Int) = 33 := fun e => h33 (u8_eq e)
      obtain rfl : F = k + 1 := by rw [hF]; unfold fromP; rw [hat]; simp [bang, h33]
      clear hF hat h33
      generalize hFe : k + 1 = F at *
      have hFi : (k : Int) + 1 = (F : Int) := by omega
      go_enter Try.func28, Try.ntmps28
      go_wp2_with fail
      go_loopw [8] (fun v8 wr => ∃ j : Nat, (j = 0 ∨ F + 1 + j ≤ s.size) ∧ v8 = .int .i64 ((F + 1 + j : Nat) : Int) ∧ wr = w ∧ Hid (E = j + ((bs s).drop (F + 1 + j)).idxOf 93)) (fun v8 _ => s.size - (intOf v8).toNat)
      case atStart => exact ⟨0, .inl rfl, by go_num, rfl, by rw [Nat.zero_add]; exact unhide HE⟩
      case round =>
        obtain ⟨j, hj, rfl, rfl, hI⟩ := hrel
        generalize hIe : F + 1 + j = i at *
        by_cases hlt : i < s.size
        · have hlt' : (i : Int) < (s.size : Int) := by omega
          by_cases h93 : s[i] = 93
          · have hc : (s[i].toNat : Int) = 93 := by rw [h93]; rfl
            have hEj : Hid (E = j) := by
              show _ = _
              rw [unhide hI, idx_here (bs s) i hlt h93]; rfl
            have hans : Hid (V = .tuple #[.int .i64 (F : Int), .int .i64 (i : Int), .bool true]) := by
              show _ = _
              rw [unhide HV, unhide hEj, hIe, if_pos hlt]
            clear h93 hI hEj hIe
            go_wp2_with fail
            go_ret3
            exact ⟨by rw [unhide hans]; rfl, rfl⟩
          · have hc : ¬ (s[i].toNat : Int) = 93 := fun e => h93 (u8_eq e)
            have hI2 : Hid (E = j + 1 + ((bs s).drop (F + 1 + (j + 1))).idxOf 93) := by
              show _ = _
              rw [show F + 1 + (j + 1) = i + 1 by omega, unhide hI, idx_step (bs s) i hlt h93]; omega
            have hIi : Hid (F + 1 + (j + 1) = i + 1) := by show _ = _; omega
            clear h93 hI hIe
            go_wp2_with fail
            go_roundw
            case rel => exact ⟨j + 1, .inr (by have := unhide hIi; omega), by rw [unhide hIi]; go_num, by trivial, hI2⟩
            case measure => simp [intOf]; omega
        · have hlt' : ¬ (i : Int) < (s.size : Int) := by omega
          have hans : Hid (V = .tuple #[.int .i64 0, .int .i64 0, .bool false]) := by
            show _ = _
            rw [unhide HV, if_neg (by rw [unhide hI]; omega)]
          clear hI hIe
          go_wp2_with fail
          go_ret3
          exact ⟨by rw [unhide hans]; rfl, rfl⟩
  · have h1' : ¬ (k : Int) + 1 < (s.size : Int) := by omega
    obtain rfl : F = k + 1 := by rw [hF]; unfold fromP; rw [bs_end s (k + 1) (by omega)]; rfl
    clear hF
    generalize hFe : k + 1 = F at *
    have hFi : (k : Int) + 1 = (F : Int) := by omega
    go_enter Try.func28, Try.ntmps28
    go_wp2_with fail
    go_loopw [8] (fun v8 wr => ∃ j : Nat, (j = 0 ∨ F + 1 + j ≤ s.size) ∧ v8 = .int .i64 ((F + 1 + j : Nat) : Int) ∧ wr = w ∧ Hid (E = j + ((bs s).drop (F + 1 + j)).idxOf 93)) (fun v8 _ => s.size - (intOf v8).toNat)
    case atStart => exact ⟨0, .inl rfl, by go_num, rfl, by rw [Nat.zero_add]; exact unhide HE⟩
    case round =>
      obtain ⟨j, hj, rfl, rfl, hI⟩ := hrel
      generalize hIe : F + 1 + j = i at *
      by_cases hlt : i < s.size
      · have hlt' : (i : Int) < (s.size : Int) := by omega
        by_cases h93 : s[i] = 93
        · have hc : (s[i].toNat : Int) = 93 := by rw [h93]; rfl
          have hEj : Hid (E = j) := by
            show _ = _
            rw [unhide hI, idx_here (bs s) i hlt h93]; rfl
          have hans : Hid (V = .tuple #[.int .i64 (F : Int), .int .i64 (i : Int), .bool true]) := by
            show _ = _
            rw [unhide HV, unhide hEj, hIe, if_pos hlt]
          clear h93 hI hEj hIe
          go_wp2_with fail
          go_ret3
          exact ⟨by rw [unhide hans]; rfl, rfl⟩
        · have hc : ¬ (s[i].toNat : Int) = 93 := fun e => h93 (u8_eq e)
          have hI2 : Hid (E = j + 1 + ((bs s).drop (F + 1 + (j + 1))).idxOf 93) := by
            show _ = _
            rw [show F + 1 + (j + 1) = i + 1 by omega, unhide hI, idx_step (bs s) i hlt h93]; omega
          have hIi : Hid (F + 1 + (j + 1) = i + 1) := by show _ = _; omega
          clear h93 hI hIe
          go_wp2_with fail
          go_roundw
          case rel => exact ⟨j + 1, .inr (by have := unhide hIi; omega), by rw [unhide hIi]; go_num, by trivial, hI2⟩
          case measure => simp [intOf]; omega
      · have hlt' : ¬ (i : Int) < (s.size : Int) := by omega
        have hans : Hid (V = .tuple #[.int .i64 0, .int .i64 0, .bool false]) := by
          show _ = _
          rw [unhide HV, if_neg (by rw [unhide hI]; omega)]
        clear hI hIe
        go_wp2_with fail
        go_ret3
        exact ⟨by rw [unhide hans]; rfl, rfl⟩
end Go.Proofs.Ytelijbnamiefcaa.Gl
