/- What IndexByte, isTarget and isName answer. -/
import Derived.Test.YtbajjbgeohbdjaaTrNode
namespace Go.Proofs.Ytbajjbgeohbdjaa.Tr
open Go.RowKit Go.Proofs.Ytbajjbgeohbdjaa.Cu

theorem indexByte_neg (l : Bs) (c : UInt8) : (c ∈ l ∧ 0 ≤ Lib.indexByte l c) ∨ (¬ c ∈ l ∧ Lib.indexByte l c = -1) := by
  induction l with
  | nil => right; simp [Lib.indexByte]
  | cons b l ih =>
    by_cases h : b = c
    · left; subst h; simp [Lib.indexByte]
    · have h1 : (b == c) = false := by simpa using h
      have h2 : ¬ c = b := fun e => h e.symm
      rw [Lib.indexByte, h1]
      simp only [Bool.false_eq_true, if_false, List.mem_cons, h2, false_or]
      rcases ih with ⟨h3, h4⟩ | ⟨h3, h4⟩
      · left
        have h5 : (Lib.indexByte l c == -1) = false := by rw [beq_eq_false_iff_ne]; omega
        rw [h5]; simp [h3]; omega
      · right
        rw [h4]; simp [h3]
set_option maxHeartbeats 1000000 in
set_option maxRecDepth 100000 in
theorem indexByte_any (s : ByteArray) (c : UInt8) (w : World) :
    Calls Try.prog 27 #[.string s, .int .u8 c.toNat] w fun e w' => e = .returned (.int .i64 (Lib.indexByte (bs s) c)) ∧ w' = w := by
  have hrun : ∀ (w : World), Calls Try.prog 44 #[.string s, .int .u8 c.toNat] w fun e w' => e = .returned (.int .i64 (Lib.indexByte (bs s) c)) ∧ w' = w := by
    intro w
    go_enter Try.func44, Try.ntmps44
    go_wp2
    rw [run_callFunc_extern Try.func60 (by kernel_rfl) (by kernel_rfl) (by kernel_rfl) (e := Extern.BytealgIndexByte.indexByte) (by kernel_rfl), Lib.run_indexByteString]
    simp only [Result.andThen]
    rw [Oper.upon_value]
    go_wp2
    go_ret
    refine ⟨congrArg (fun b => Ending.returned (.int .i64 (Lib.indexByte (bs s) b))) ?_, rfl⟩
    simp
  have HR := hide hrun
  clear hrun
  go_enter Try.func27, Try.ntmps27
  go_wp2_with fail
  refine (unhide HR _).mono ?_
  rintro e w' ⟨rfl, rfl⟩
  go_wp2_with fail
  go_ret
  exact ⟨rfl, rfl⟩
/-- the place of a byte: below 0 if it is not there -/
theorem indexHas (s : ByteArray) (c : UInt8) : ∃ ix : Int, (∀ w : World, Calls Try.prog 27 #[.string s, .int .u8 c.toNat] w fun e w' => e = .returned (.int .i64 ix) ∧ w' = w) ∧ ((hasB s c = true ∧ 0 ≤ ix) ∨ (hasB s c = false ∧ ix = -1)) := by
  refine ⟨_, fun w => indexByte_any s c w, ?_⟩
  unfold hasB
  rcases indexByte_neg (bs s) c with ⟨h, h2⟩ | ⟨h, h2⟩
  · left; exact ⟨by simp [h], h2⟩
  · right; exact ⟨by simp [h], h2⟩
theorem toList_ne {s t : ByteArray} (h : s ≠ t) : (s.toList == t.toList) = false := by
  rw [beq_eq_false_iff_ne]
  intro e
  rw [ByteArray.toList_eq, ByteArray.toList_eq] at e
  exact h (ba_ext e)
theorem toList_same (s : ByteArray) : (s.toList == s.toList) = true := by simp

set_option maxRecDepth 100000 in
set_option maxHeartbeats 1000000 in
theorem isTarget_any (s : ByteArray) (w : World) : Calls Try.prog 71 #[.string s] w fun e w' => e = .returned (.bool (targetP s)) ∧ w' = w := by
  obtain ⟨i0, H0, h0⟩ := indexHas s 0
  have HI := hide H0
  clear H0
  by_cases a1 : 1 ≤ (s.size : Int)
  case neg =>
    rw [show targetP s = false by simp [targetP]; omega]
    clear h0
    go_enter Try.func71, Try.ntmps71
    go_wp2
    go_ret
    exact ⟨rfl, rfl⟩
  by_cases a2 : (s.size : Int) ≤ 1024
  case neg =>
    rw [show targetP s = false by simp [targetP]; omega]
    clear h0
    go_enter Try.func71, Try.ntmps71
    go_wp2
    go_ret
    exact ⟨rfl, rfl⟩
  have a3 : targetP s = !hasB s 0 := by
    unfold targetP
    rw [show decide (1 ≤ s.size) = true by simp; omega, show decide (s.size ≤ 1024) = true by simp; omega]; rfl
  rw [a3]
  clear a3
  rcases h0 with ⟨hh, hi⟩ | ⟨hh, rfl⟩
  · rw [hh]
    go_enter Try.func71, Try.ntmps71
    go_wp2_with (go_at_call 27; refine (unhide HI _).mono ?_; rintro e w' ⟨rfl, rfl⟩)
    go_ret
    exact ⟨by simp; omega, rfl⟩
  · rw [hh]
    go_enter Try.func71, Try.ntmps71
    go_wp2_with (go_at_call 27; refine (unhide HI _).mono ?_; rintro e w' ⟨rfl, rfl⟩)
    go_ret
    exact ⟨rfl, rfl⟩
set_option maxRecDepth 100000 in
set_option maxHeartbeats 1000000 in
theorem isName_any (s : ByteArray) (w : World) : Calls Try.prog 78 #[.string s] w fun e w' => e = .returned (.bool (nameP s)) ∧ w' = w := by
  obtain ⟨i0, H0, h0⟩ := indexHas s 0
  obtain ⟨i1, H1, h1⟩ := indexHas s 47
  have HI := hide H0
  have HJ := hide H1
  clear H0 H1
  by_cases a1 : 1 ≤ (s.size : Int)
  case neg =>
    rw [show nameP s = false by simp [nameP]; omega]
    clear h0 h1
    go_enter Try.func78, Try.ntmps78
    go_wp2
    go_ret
    exact ⟨rfl, rfl⟩
  by_cases a2 : (s.size : Int) ≤ 64
  case neg =>
    rw [show nameP s = false by simp [nameP]; omega]
    clear h0 h1
    go_enter Try.func78, Try.ntmps78
    go_wp2
    go_ret
    exact ⟨rfl, rfl⟩
  have a3 : nameP s = (decide (s ≠ ⟨#[46]⟩) && decide (s ≠ ⟨#[46, 46]⟩) && !hasB s 0 && !hasB s 47) := by
    unfold nameP
    rw [show decide (1 ≤ s.size) = true by simp; omega, show decide (s.size ≤ 64) = true by simp; omega]; rfl
  rw [a3]
  clear a3
  by_cases b1 : s = ⟨#[46]⟩
  · rw [show decide (s ≠ ⟨#[46]⟩) = false by simp [b1]]
    subst b1
    clear h0 h1 a1 a2
    simp only [Bool.false_and]
    go_enter Try.func78, Try.ntmps78
    go_wp2
    go_ret
    exact ⟨rfl, rfl⟩
  by_cases b2 : s = ⟨#[46, 46]⟩
  · rw [show decide (s ≠ ⟨#[46, 46]⟩) = false by simp [b2], Bool.and_false]
    subst b2
    clear h0 h1 a1 a2
    simp only [Bool.false_and]
    go_enter Try.func78, Try.ntmps78
    go_wp2
    go_ret
    exact ⟨rfl, rfl⟩
  rw [show decide (s ≠ ⟨#[46]⟩) = true by simp [b1], show decide (s ≠ ⟨#[46, 46]⟩) = true by simp [b2]]
  have c1 : ¬ s.toList = [46] := fun h => b1 (ba_ext (by rw [ByteArray.toList_eq] at h; exact h))
  have c2 : ¬ s.toList = [46, 46] := fun h => b2 (ba_ext (by rw [ByteArray.toList_eq] at h; exact h))
  clear b1 b2
  rcases h0 with ⟨hh, hi⟩ | ⟨hh, rfl⟩
  · rw [hh]
    clear hh h1
    simp only [Bool.not_true, Bool.and_false, Bool.false_and]
    go_enter Try.func78, Try.ntmps78
    go_wp2_with (go_at_call 27; refine (unhide HI _).mono ?_; rintro e w' ⟨rfl, rfl⟩)
    go_ret
    exact ⟨rfl, rfl⟩
  rw [hh]
  rcases h1 with ⟨h2, hi⟩ | ⟨h2, rfl⟩
  · rw [h2]
    clear h2 hh
    go_enter Try.func78, Try.ntmps78
    go_wp2_with (first | (go_at_call 27; refine (unhide HI _).mono ?_; rintro e w' ⟨rfl, rfl⟩) | (go_at_call 27; refine (unhide HJ _).mono ?_; rintro e w' ⟨rfl, rfl⟩))
    go_ret
    exact ⟨by simp [c1, c2]; omega, rfl⟩
  · rw [h2]
    clear h2 hh
    go_enter Try.func78, Try.ntmps78
    go_wp2_with (first | (go_at_call 27; refine (unhide HI _).mono ?_; rintro e w' ⟨rfl, rfl⟩) | (go_at_call 27; refine (unhide HJ _).mono ?_; rintro e w' ⟨rfl, rfl⟩))
    go_ret
    exact ⟨by simp [c1, c2], rfl⟩
end Go.Proofs.Ytbajjbgeohbdjaa.Tr
