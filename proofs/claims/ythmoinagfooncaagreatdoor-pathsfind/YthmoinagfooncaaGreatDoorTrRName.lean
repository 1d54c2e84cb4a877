/- What the document's Name answers. -/
import Derived.Test.YthmoinagfooncaaGreatDoorTrMay
namespace Go.Proofs.YthmoinagfooncaaGreatDoor.Tr
open Go.RowKit Go.Proofs.YthmoinagfooncaaGreatDoor.Cu

theorem hasB_at {s : ByteArray} {c : UInt8} {k : Nat} (hk : k < s.size) (h : s[k] = c) : hasB s c = true := by
  have q2 : (bs s)[k]? = some s[k] := by
    rw [List.getElem?_eq_getElem (by rw [bs_len]; exact hk)]; rfl
  unfold hasB
  rw [decide_eq_true_eq, ← h]
  exact List.mem_of_getElem? q2
theorem hasB_no {s : ByteArray} {c : UInt8} (h : ∀ k (hk : k < s.size), s[k] ≠ c) : hasB s c = false := by
  unfold hasB
  rw [decide_eq_false_iff_not]
  intro hm
  obtain ⟨k, hk, e⟩ := List.mem_iff_getElem.1 hm
  have hk' : k < s.size := by rw [← bs_len]; exact hk
  exact h k hk' e
set_option maxRecDepth 100000 in
set_option maxHeartbeats 400000 in
theorem rname_any (s : ByteArray) (w : World) (hsz : s.size < 4611686018427387904) : Calls Tryz.prog 59 #[.string s] w fun e w' => e = .returned (.bool (nameP s)) ∧ w' = w := by
  go_enter Tryz.func59, Tryz.ntmps59
  go_wp2_with fail
  go_loopw [3] (fun iv wr => ∃ k : Nat, k ≤ s.size ∧ iv = .int .i64 k ∧ wr = w ∧ Hid (∀ j (hj : j < s.size), j < k → s[j] ≠ 0 ∧ s[j] ≠ 47)) (fun iv _ => s.size - (intOf iv).toNat)
  case atStart => exact ⟨0, Nat.zero_le _, rfl, rfl, fun j _ h => by omega⟩
  case round =>
    obtain ⟨k, hk, rfl, rfl, hno⟩ := hrel
    by_cases hlt : k < s.size
    · have hlt' : (k : Int) < (s.size : Int) := by omega
      by_cases e0 : s[k] = 0
      · have hv : Hid (nameP s = false) := by
          show nameP s = false
          simp [nameP, hasB_at hlt e0]
        have e0' : (s[k].toNat : Int) = 0 := by rw [e0]; rfl
        clear hno e0
        go_wp2
        go_ret
        exact ⟨by rw [unhide hv]; rfl, rfl⟩
      · by_cases e1 : s[k] = 47
        · have hv : Hid (nameP s = false) := by
            show nameP s = false
            simp [nameP, hasB_at hlt e1]
          have e1' : (s[k].toNat : Int) = 47 := by rw [e1]; rfl
          clear hno e0 e1
          go_wp2
          go_ret
          exact ⟨by rw [unhide hv]; rfl, rfl⟩
        · have e0' : ¬ (s[k].toNat : Int) = 0 := fun h => e0 (UInt8.toNat_inj.1 (by simpa using h))
          have e1' : ¬ (s[k].toNat : Int) = 47 := fun h => e1 (UInt8.toNat_inj.1 (by show s[k].toNat = 47; omega))
          have hno2 : Hid (∀ j (hj : j < s.size), j < k + 1 → s[j] ≠ 0 ∧ s[j] ≠ 47) := fun j hj hjk => by
            by_cases e : j = k
            · subst e; exact ⟨e0, e1⟩
            · exact unhide hno j hj (by omega)
          clear hno e0 e1
          go_wp2
          · exfalso
            rename_i h
            simp only [beq_iff_eq] at h
            omega
          go_roundw
          case rel => exact ⟨k + 1, by omega, by go_num, trivial, hno2⟩
          case measure => simp [intOf]; omega
    · obtain rfl : k = s.size := by omega
      have n0 : hasB s 0 = false := hasB_no fun j hj => (unhide hno j hj hj).1
      have n1 : hasB s 47 = false := hasB_no fun j hj => (unhide hno j hj hj).2
      have hP : Hid (nameP s = (decide (1 ≤ s.size) && decide (s.size ≤ 64) && decide (s ≠ ⟨#[46]⟩) && decide (s ≠ ⟨#[46, 46]⟩))) := by
        show nameP s = _
        simp [nameP, n0, n1]
      clear n0 n1 hno
      by_cases a1 : 1 ≤ (s.size : Int)
      case neg =>
        have hv : Hid (nameP s = false) := by
          show nameP s = false
          rw [unhide hP, show decide (1 ≤ s.size) = false from decide_eq_false (by omega)]; rfl
        clear hP
        go_wp2
        go_ret
        exact ⟨by rw [unhide hv]; rfl, rfl⟩
      by_cases a2 : (s.size : Int) ≤ 64
      case neg =>
        have hv : Hid (nameP s = false) := by
          show nameP s = false
          rw [unhide hP, show decide (s.size ≤ 64) = false from decide_eq_false (by omega)]; simp
        clear hP
        go_wp2
        go_ret
        exact ⟨by rw [unhide hv]; rfl, rfl⟩
      by_cases a3 : s = ⟨#[46]⟩
      · have hv : Hid (nameP s = false) := by
          show nameP s = false
          rw [unhide hP, a3]; rfl
        clear hP
        subst a3
        go_wp2
        go_ret
        exact ⟨by rw [unhide hv]; rfl, rfl⟩
      by_cases a4 : s = ⟨#[46, 46]⟩
      · have hv : Hid (nameP s = false) := by
          show nameP s = false
          rw [unhide hP, a4]; rfl
        clear hP
        subst a4
        go_wp2
        go_ret
        exact ⟨by rw [unhide hv]; rfl, rfl⟩
      have hv : Hid (nameP s = true) := by
        show nameP s = true
        rw [unhide hP, show decide (1 ≤ s.size) = true from decide_eq_true (by omega), show decide (s.size ≤ 64) = true from decide_eq_true (by omega)]
        simp [a3, a4]
      have b3 : ¬ s.toList = [46] := fun h => a3 (ba_ext (by rw [ByteArray.toList_eq] at h; exact h))
      have b4 : ¬ s.toList = [46, 46] := fun h => a4 (ba_ext (by rw [ByteArray.toList_eq] at h; exact h))
      clear hP a3 a4
      go_wp2
      go_ret
      exact ⟨by rw [unhide hv]; simp [b3, b4], rfl⟩
end Go.Proofs.YthmoinagfooncaaGreatDoor.Tr
