/- Texts of paths: what the package's own small functions answer. -/
import Derived.Test.YtbajjbgeohbdjaaPtStr
import Derived.Test.YtbajjbgeohbdjaaPtShelf
namespace Go.Proofs.Ytbajjbgeohbdjaa.Pt
open Go.RowKit Go.Proofs.Ytbajjbgeohbdjaa.Cu

abbrev sl : ByteArray := ⟨#[47]⟩
theorem ret_b {a b : Bool} (h : a = b) : Ending.returned (.bool a) = .returned (.bool b) := by rw [h]
theorem ret_i {a b : Int} (h : a = b) : Ending.returned (.int .i64 a) = .returned (.int .i64 b) := by rw [h]
theorem ret_s {a b : ByteArray} (h : a = b) : Ending.returned (.string a) = .returned (.string b) := by rw [h]
theorem beq_one (l : Bs) (x : Option UInt8) (h : (l = [47]) ↔ x = some 47) : (l == [47]) = decide (x = some 47) := by
  rw [Bool.eq_iff_iff]; simpa using h
theorem begins_of (s : ByteArray) (h : ¬ s.size = 0) : ((s.extract 0 1).toList == [47]) = begins s := by
  unfold begins
  rw [ByteArray.toList_eq, ext_tx]
  show (bs (tx _) == [47]) = _
  rw [bs_tx]
  refine beq_one _ _ ?_
  cases e : bs s with
  | nil => exact absurd (show (bs s).length = 0 by rw [e]; rfl) h
  | cons x t => simp
theorem ends_of (s : ByteArray) (h : ¬ s.size = 0) : ((s.extract (s.size - 1) s.size).toList == [47]) = ends s := by
  unfold ends
  rw [ByteArray.toList_eq, ext_tx]
  show (bs (tx _) == [47]) = _
  rw [bs_tx]
  refine beq_one _ _ ?_
  have hl : (bs s).length = s.size := rfl
  rw [List.getLast?_eq_getElem?, hl, List.drop_eq_getElem_cons (show s.size - 1 < (bs s).length by omega), List.getElem?_eq_getElem (show s.size - 1 < (bs s).length by omega), show s.size - (s.size - 1) = 0 + 1 by omega, List.take_succ_cons]
  simp
theorem none_of {s : ByteArray} (h : s.size = 0) : bs s = [] := List.eq_nil_of_length_eq_zero h
set_option maxRecDepth 100000 in
set_option maxHeartbeats 400000 in
theorem hasPre_any (s : ByteArray) (w : World) : Calls Try.prog 61 #[.string s, .string sl] w fun e w' => e = .returned (.bool (begins s)) ∧ w' = w := by
  by_cases h0 : s.size = 0
  · have hv : begins s = false := by simp [begins, none_of h0]
    rw [hv]
    go_enter Try.func61, Try.ntmps61
    go_wp2_with fail
    go_ret
    exact ⟨rfl, rfl⟩
  · go_enter Try.func61, Try.ntmps61
    go_wp2_with fail
    go_ret
    exact ⟨ret_b (begins_of s h0), rfl⟩
set_option maxRecDepth 100000 in
set_option maxHeartbeats 400000 in
theorem hasSuf_any (s : ByteArray) (w : World) (hs : s.size ≤ 1000000000) : Calls Try.prog 62 #[.string s, .string sl] w fun e w' => e = .returned (.bool (ends s)) ∧ w' = w := by
  by_cases h0 : s.size = 0
  · have hv : ends s = false := by simp [ends, none_of h0]
    rw [hv]
    go_enter Try.func62, Try.ntmps62
    go_wp2_with fail
    go_ret
    exact ⟨rfl, rfl⟩
  · have h1 : 1 ≤ (s.size : Int) := by omega
    have HE := hide (ends_of s h0)
    obtain ⟨k, hk⟩ : ∃ k, k = s.size - 1 := ⟨_, rfl⟩
    rw [← hk] at HE
    have hk1 : (s.size : Int) - 1 = (k : Int) := by omega
    clear hk
    go_enter Try.func62, Try.ntmps62
    go_wp2_with fail
    go_ret
    exact ⟨ret_b (unhide HE), rfl⟩
set_option maxRecDepth 100000 in
set_option maxHeartbeats 400000 in
theorem hasPrefix_any (s : ByteArray) (w : World) : Calls Try.prog 45 #[.string s, .string sl] w fun e w' => e = .returned (.bool (begins s)) ∧ w' = w := by
  go_enter Try.func45, Try.ntmps45
  go_wp2_with (go_at_call 61; refine (hasPre_any _ _).mono ?_; rintro e w' ⟨rfl, rfl⟩)
  go_ret
  exact ⟨rfl, rfl⟩
set_option maxRecDepth 100000 in
set_option maxHeartbeats 400000 in
theorem hasSuffix_any (s : ByteArray) (w : World) (hs : s.size ≤ 1000000000) : Calls Try.prog 46 #[.string s, .string sl] w fun e w' => e = .returned (.bool (ends s)) ∧ w' = w := by
  go_enter Try.func46, Try.ntmps46
  go_wp2_with (go_at_call 62; refine (hasSuf_any _ _ hs).mono ?_; rintro e w' ⟨rfl, rfl⟩)
  go_ret
  exact ⟨rfl, rfl⟩
theorem size_tx (c : Bs) : (tx c).size = c.length := by simp [tx, ByteArray.size]
theorem eq_none {c : Bs} : tx c = ⟨#[]⟩ ↔ c = [] := ⟨fun e => by have := congrArg bs e; rw [bs_tx] at this; exact this, fun e => by rw [e]; rfl⟩
theorem tx_beq (c : Bs) : ((tx c).toList == []) = decide (c = []) := by
  rw [ByteArray.toList_eq]
  show (bs (tx c) == []) = _
  rw [bs_tx, Bool.eq_iff_iff]; simp
theorem s_beq (s : ByteArray) : (s.toList == []) = decide (bs s = []) := by
  rw [ByteArray.toList_eq, Bool.eq_iff_iff]; simp [bs]
theorem bare_le (l : Bs) : (bareB l).length ≤ l.length := by
  unfold bareB
  rw [List.length_reverse]
  have := (List.dropWhile_sublist (· == 47) (l := l.reverse)).length_le
  rw [List.length_reverse] at this; exact this
theorem ext_drop (c : Bs) (k : Nat) : (tx c).extract k (tx c).size = tx (c.drop k) := by
  rw [ext_tx, bs_tx, size_tx, List.take_of_length_le (by simp)]
theorem ext_take (c : Bs) (k : Nat) : (tx c).extract 0 k = tx (c.take k) := by
  rw [ext_tx, bs_tx]; simp
theorem begins_head (s : ByteArray) : begins s = decide ((bs s).head? = some 47) := rfl
theorem join_one {s t : ByteArray} (h : bs s = [] ∨ (bs s).getLast? = some 47) : tx (joinB (bs s) (bs t)) = s ++ t := by
  unfold joinB
  rw [if_pos h]
  apply ba_ext
  rw [bs_tx]
  simp [bs]
theorem join_two {s t : ByteArray} (h : ¬ (bs s = [] ∨ (bs s).getLast? = some 47)) : tx (joinB (bs s) (bs t)) = s ++ sl ++ t := by
  unfold joinB
  rw [if_neg h]
  apply ba_ext
  rw [bs_tx]
  simp [bs]
set_option maxRecDepth 100000 in
set_option maxHeartbeats 1000000 in
theorem join_any (s t : ByteArray) (w : World) (hs : s.size ≤ 1000000000) (ht : t.size ≤ 1000000000) : Calls Try.prog 51 #[.string s, .string t] w fun e w' => e = .returned (.string (tx (joinB (bs s) (bs t)))) ∧ w' = w := by
  have HP := hide (fun W => hasSuffix_any s W hs)
  have hq := s_beq s
  have g1 : ¬ 9223372036854775807 < s.size + t.size := by omega
  have g2 : ¬ 9223372036854775807 < s.size + 1 := by omega
  have g3 : ¬ 9223372036854775807 < s.size + 1 + t.size := by omega
  by_cases h0 : bs s = []
  · rw [join_one (.inl h0)]
    rw [decide_eq_true h0] at hq
    clear h0
    go_enter Try.func51, Try.ntmps51
    go_wp2_with fail
    go_ret
    exact ⟨rfl, rfl⟩
  rw [decide_eq_false h0] at hq
  by_cases h1 : (bs s).getLast? = some 47
  · rw [join_one (.inr h1)]
    rw [show ends s = true from decide_eq_true h1] at HP
    clear h0 h1
    go_enter Try.func51, Try.ntmps51
    go_wp2_with (go_at_call 46; refine (unhide HP _).mono ?_; rintro e w' ⟨rfl, rfl⟩)
    go_ret
    exact ⟨rfl, rfl⟩
  · rw [join_two (fun h => h.elim h0 h1)]
    rw [show ends s = false from decide_eq_false h1] at HP
    clear h0 h1
    go_enter Try.func51, Try.ntmps51
    go_wp2_with (go_at_call 46; refine (unhide HP _).mono ?_; rintro e w' ⟨rfl, rfl⟩)
    go_ret
    exact ⟨rfl, rfl⟩
end Go.Proofs.Ytbajjbgeohbdjaa.Pt
