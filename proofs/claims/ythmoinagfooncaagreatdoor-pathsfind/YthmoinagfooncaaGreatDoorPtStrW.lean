/- Texts of paths: what the package's own small functions answer. -/
import Derived.Test.YthmoinagfooncaaGreatDoorPtStr
import Derived.Test.YthmoinagfooncaaGreatDoorPtShelf
namespace Go.Proofs.YthmoinagfooncaaGreatDoor.Pt
open Go.RowKit Go.Proofs.YthmoinagfooncaaGreatDoor.Cu

abbrev sl : ByteArray := ⟨#[47]⟩
theorem ret_b {a b : Bool} (h : a = b) : Ending.returned (.bool a) = .returned (.bool b) := by rw [h]
theorem ret_i {a b : Int} (h : a = b) : Ending.returned (.int .i64 a) = .returned (.int .i64 b) := by rw [h]
theorem ret_s {a b : ByteArray} (h : a = b) : Ending.returned (.string a) = .returned (.string b) := by rw [h]
theorem beq_one (l : Bs) (x : Option UInt8) (h : (l = [47]) ↔ x = some 47) : (l == [47]) = decide (x = some 47) := by
  rw [Bool.eq_iff_iff]; simpa using h
theorem begins_of (s : ByteArray) (h : ¬ s.size = 0) : ((s.extract 0 1).toList == [47]) = begins s := by
  unfold begins
  rw [ByteArray.toList_eq, ext_tx]
  show (bs (tx _) == [47]) = _
  rw [bs_tx]
  refine beq_one _ _ ?_
  cases e : bs s with
  | nil => exact absurd (show (bs s).length = 0 by rw [e]; rfl) h
  | cons x t => simp
theorem ends_of (s : ByteArray) (h : ¬ s.size = 0) : ((s.extract (s.size - 1) s.size).toList == [47]) = ends s := by
  unfold ends
  rw [ByteArray.toList_eq, ext_tx]
  show (bs (tx _) == [47]) = _
  rw [bs_tx]
  refine beq_one _ _ ?_
  have hl : (bs s).length = s.size := rfl
  rw [List.getLast?_eq_getElem?, hl, List.drop_eq_getElem_cons (show s.size - 1 < (bs s).length by omega), List.getElem?_eq_getElem (show s.size - 1 < (bs s).length by omega), show s.size - (s.size - 1) = 0 + 1 by omega, List.take_succ_cons]
  simp
theorem none_of {s : ByteArray} (h : s.size = 0) : bs s = [] := List.eq_nil_of_length_eq_zero h
set_option maxRecDepth 100000 in
set_option maxHeartbeats 400000 in
theorem hasPre_any (s : ByteArray) (w : World) : Calls Tryz.prog 47 #[.string s, .string sl] w fun e w' => e = .returned (.bool (begins s)) ∧ w' = w := by
  by_cases h0 : s.size = 0
  · have hv : begins s = false := by simp [begins, none_of h0]
    rw [hv]
    go_enter Tryz.func47, Tryz.ntmps47
    go_wp2_with fail
    go_ret
    exact ⟨rfl, rfl⟩
  · go_enter Tryz.func47, Tryz.ntmps47
    go_wp2_with fail
    go_ret
    exact ⟨ret_b (begins_of s h0), rfl⟩
set_option maxRecDepth 100000 in
set_option maxHeartbeats 400000 in
theorem hasSuf_any (s : ByteArray) (w : World) (hs : s.size ≤ 1000000000) : Calls Tryz.prog 48 #[.string s, .string sl] w fun e w' => e = .returned (.bool (ends s)) ∧ w' = w := by
  by_cases h0 : s.size = 0
  · have hv : ends s = false := by simp [ends, none_of h0]
    rw [hv]
    go_enter Tryz.func48, Tryz.ntmps48
    go_wp2_with fail
    go_ret
    exact ⟨rfl, rfl⟩
  · have h1 : 1 ≤ (s.size : Int) := by omega
    have HE := hide (ends_of s h0)
    obtain ⟨k, hk⟩ : ∃ k, k = s.size - 1 := ⟨_, rfl⟩
    rw [← hk] at HE
    have hk1 : (s.size : Int) - 1 = (k : Int) := by omega
    clear hk
    go_enter Tryz.func48, Tryz.ntmps48
    go_wp2_with fail
    go_ret
    exact ⟨ret_b (unhide HE), rfl⟩
set_option maxRecDepth 100000 in
set_option maxHeartbeats 400000 in
theorem hasPrefix_any (s : ByteArray) (w : World) : Calls Tryz.prog 27 #[.string s, .string sl] w fun e w' => e = .returned (.bool (begins s)) ∧ w' = w := by
  go_enter Tryz.func27, Tryz.ntmps27
  go_wp2_with (go_at_call 47; refine (hasPre_any _ _).mono ?_; rintro e w' ⟨rfl, rfl⟩)
  go_ret
  exact ⟨rfl, rfl⟩
set_option maxRecDepth 100000 in
set_option maxHeartbeats 400000 in
theorem hasSuffix_any (s : ByteArray) (w : World) (hs : s.size ≤ 1000000000) : Calls Tryz.prog 28 #[.string s, .string sl] w fun e w' => e = .returned (.bool (ends s)) ∧ w' = w := by
  go_enter Tryz.func28, Tryz.ntmps28
  go_wp2_with (go_at_call 48; refine (hasSuf_any _ _ hs).mono ?_; rintro e w' ⟨rfl, rfl⟩)
  go_ret
  exact ⟨rfl, rfl⟩
set_option maxRecDepth 100000 in
set_option maxHeartbeats 400000 in
theorem without_any (s : ByteArray) (w : World) (hs : s.size ≤ 1000000000) : Calls Tryz.prog 25 #[.string s] w fun e w' => e = .returned (.string (tx (bareB (bs s)))) ∧ w' = w := by
  go_enter Tryz.func25, Tryz.ntmps25
  go_wp2_with (go_at_call 45; refine (Tryz.strings_TrimRight_one s 47 (by decide) _ (by omega)).mono ?_; rintro e w' ⟨rfl, rfl⟩)
  go_ret
  exact ⟨rfl, rfl⟩
theorem behind_is (s : ByteArray) : Lib.lastIndexByte s 47 + 1 = (lastB (bs s) : Int) := by
  have hd : ∀ j, j < s.size → (((s.data[j]!).toNat : Int) = 47 ↔ (bs s)[j]? = some 47) := fun j hj => by
    have e := Lib.data_getElem? s j hj
    have e2 : s.data[j]! = s[j] := LastIndex.byteBang s j hj
    unfold bs
    rw [e2, e]
    constructor
    · intro h
      rw [show s[j] = 47 from UInt8.toNat_inj.1 (by show s[j].toNat = 47; omega)]
    · intro h
      rw [Option.some.inj h]; rfl
  rcases Lib.lastIndexByte_spec s 47 with ⟨h1, h2⟩ | ⟨i, hi, h1, h2, h3⟩
  · rw [h1, last_is (bs s) 0 (fun x hx e => ?_) (.inl rfl)]
    · rfl
    · subst e
      rw [List.drop_zero] at hx
      obtain ⟨j, hj, hjx⟩ := List.getElem_of_mem hx
      exact h2 j hj ((hd j hj).2 (by rw [List.getElem?_eq_getElem hj, hjx]))
  · rw [h1, last_is (bs s) (i + 1) (fun x hx e => ?_) (.inr ⟨by omega, (hd i hi).1 h2⟩)]
    · rfl
    · subst e
      obtain ⟨j, hj, hjx⟩ := List.getElem_of_mem hx
      rw [List.length_drop] at hj
      rw [List.getElem_drop] at hjx
      have hl : (bs s).length = s.size := rfl
      exact h3 (i + 1 + j) (by omega) (by omega) ((hd _ (by omega)).2 (by rw [List.getElem?_eq_getElem (by omega), hjx]))
set_option maxRecDepth 100000 in
set_option maxHeartbeats 400000 in
theorem behind_any (s : ByteArray) (w : World) (hs : s.size ≤ 1000000000) : Calls Tryz.prog 26 #[.string s] w fun e w' => e = .returned (.int .i64 (lastB (bs s))) ∧ w' = w := by
  have HB := hide (behind_is s)
  have h1 : Lib.lastIndexByte s 47 + 1 ≤ 1000000000 := by rw [behind_is]; have := last_le (bs s); have hl : (bs s).length = s.size := rfl; omega
  have h2 : 0 ≤ Lib.lastIndexByte s 47 + 1 := by rw [behind_is]; omega
  have HC : Hid (∀ W, Calls Tryz.prog 46 #[.string s, .string sl] W fun e w' => e = .returned (.int .i64 (Lib.lastIndexByte s 47)) ∧ w' = W) := fun W => Tryz.strings_LastIndex_one s sl rfl (by omega) W
  generalize Lib.lastIndexByte s 47 = z at *
  go_enter Tryz.func26, Tryz.ntmps26
  go_wp2_with (go_at_call 46; refine (unhide HC _).mono ?_; rintro e w' ⟨rfl, rfl⟩)
  go_ret
  exact ⟨ret_i (unhide HB), rfl⟩
theorem size_tx (c : Bs) : (tx c).size = c.length := by simp [tx, ByteArray.size]
theorem eq_none {c : Bs} : tx c = ⟨#[]⟩ ↔ c = [] := ⟨fun e => by have := congrArg bs e; rw [bs_tx] at this; exact this, fun e => by rw [e]; rfl⟩
theorem tx_beq (c : Bs) : ((tx c).toList == []) = decide (c = []) := by
  rw [ByteArray.toList_eq]
  show (bs (tx c) == []) = _
  rw [bs_tx, Bool.eq_iff_iff]; simp
theorem s_beq (s : ByteArray) : (s.toList == []) = decide (bs s = []) := by
  rw [ByteArray.toList_eq, Bool.eq_iff_iff]; simp [bs]
theorem bare_le (l : Bs) : (bareB l).length ≤ l.length := by
  unfold bareB
  rw [List.length_reverse]
  have := (List.dropWhile_sublist (· == 47) (l := l.reverse)).length_le
  rw [List.length_reverse] at this; exact this
theorem ext_drop (c : Bs) (k : Nat) : (tx c).extract k (tx c).size = tx (c.drop k) := by
  rw [ext_tx, bs_tx, size_tx, List.take_of_length_le (by simp)]
theorem ext_take (c : Bs) (k : Nat) : (tx c).extract 0 k = tx (c.take k) := by
  rw [ext_tx, bs_tx]; simp
set_option maxRecDepth 100000 in
set_option maxHeartbeats 400000 in
theorem base_any (s : ByteArray) (w : World) (hs : s.size ≤ 1000000000) : Calls Tryz.prog 12 #[.string s] w fun e w' => e = .returned (.string (tx (baseB (bs s)))) ∧ w' = w := by
  have hl : (bs s).length = s.size := rfl
  by_cases h0 : bs s = []
  · have hv : baseB (bs s) = [46] := by unfold baseB; rw [if_pos h0]
    rw [hv]
    have hq := (s_beq s).trans (decide_eq_true h0)
    go_enter Tryz.func12, Tryz.ntmps12
    go_wp2_with fail
    go_ret
    exact ⟨rfl, rfl⟩
  have hq := (s_beq s).trans (decide_eq_false h0)
  have HC := hide (fun W => without_any s W hs)
  obtain ⟨b, hb⟩ : ∃ b, b = bareB (bs s) := ⟨_, rfl⟩
  have hbl : b.length ≤ 1000000000 := by rw [hb]; have := bare_le (bs s); omega
  have hv : baseB (bs s) = if b = [] then [47] else b.drop (lastB b) := by unfold baseB; rw [if_neg h0, ← hb]
  rw [← hb] at HC
  rw [hv]
  clear hv hb
  by_cases h1 : b = []
  · rw [if_pos h1]
    have hq1 := (tx_beq b).trans (decide_eq_true h1)
    obtain ⟨t, ht⟩ : ∃ t, t = tx b := ⟨_, rfl⟩
    rw [← ht] at HC hq1
    clear ht h1
    go_enter Tryz.func12, Tryz.ntmps12
    go_wp2_with (go_at_call 25; refine (unhide HC _).mono ?_; rintro e w' ⟨rfl, rfl⟩)
    go_ret
    exact ⟨rfl, rfl⟩
  · rw [if_neg h1]
    have hq1 := (tx_beq b).trans (decide_eq_false h1)
    have HD : Hid (∀ W, Calls Tryz.prog 26 #[.string (tx b)] W fun e w' => e = .returned (.int .i64 (lastB b)) ∧ w' = W) := fun W => by have := behind_any (tx b) W (by rw [size_tx]; exact hbl); rw [bs_tx] at this; exact this
    have HX := hide (ext_drop b (lastB b))
    have hle : lastB b ≤ (tx b).size := by rw [size_tx]; exact last_le b
    generalize lastB b = k at *
    obtain ⟨t, ht⟩ : ∃ t, t = tx b := ⟨_, rfl⟩
    rw [← ht] at HC HD HX hle hq1
    clear ht h1
    go_enter Tryz.func12, Tryz.ntmps12
    go_wp2_with (first | (go_at_call 25; refine (unhide HC _).mono ?_; rintro e w' ⟨rfl, rfl⟩) | (go_at_call 26; refine (unhide HD _).mono ?_; rintro e w' ⟨rfl, rfl⟩))
    go_ret
    exact ⟨ret_s (unhide HX), rfl⟩
theorem begins_head (s : ByteArray) : begins s = decide ((bs s).head? = some 47) := rfl
set_option maxRecDepth 100000 in
set_option maxHeartbeats 1000000 in
theorem dir_any (s : ByteArray) (w : World) (hs : s.size ≤ 1000000000) : Calls Tryz.prog 13 #[.string s] w fun e w' => e = .returned (.string (tx (dirB (bs s)))) ∧ w' = w := by
  have hl : (bs s).length = s.size := rfl
  have HC := hide (fun W => without_any s W hs)
  obtain ⟨b, hb⟩ : ∃ b, b = bareB (bs s) := ⟨_, rfl⟩
  have hbl : b.length ≤ 1000000000 := by rw [hb]; have := bare_le (bs s); omega
  have hv : dirB (bs s) = if bareB (b.take (lastB b)) ≠ [] then bareB (b.take (lastB b)) else if (bs s).head? = some 47 then [47] else [46] := by unfold dirB; rw [← hb]
  rw [← hb] at HC
  rw [hv]
  clear hv hb
  have HD : Hid (∀ W, Calls Tryz.prog 26 #[.string (tx b)] W fun e w' => e = .returned (.int .i64 (lastB b)) ∧ w' = W) := fun W => by have := behind_any (tx b) W (by rw [size_tx]; exact hbl); rw [bs_tx] at this; exact this
  have HC2 : Hid (∀ W, Calls Tryz.prog 25 #[.string ((tx b).extract 0 (lastB b))] W fun e w' => e = .returned (.string (tx (bareB (b.take (lastB b))))) ∧ w' = W) := fun W => by
    rw [ext_take]
    have := without_any (tx (b.take (lastB b))) W (by rw [size_tx, List.length_take]; omega)
    rw [bs_tx] at this; exact this
  have HP := hide (fun W => hasPrefix_any s W)
  have hle : lastB b ≤ (tx b).size := by rw [size_tx]; exact last_le b
  have hq1 := tx_beq (bareB (b.take (lastB b)))
  obtain ⟨h, hh⟩ : ∃ h, h = bareB (b.take (lastB b)) := ⟨_, rfl⟩
  rw [← hh] at HC2 hq1 ⊢
  generalize lastB b = k at *
  generalize tx b = t at *
  clear hh hbl hl
  obtain ⟨u, hu⟩ : ∃ u, u = tx h := ⟨_, rfl⟩
  by_cases h1 : h = []
  · rw [if_neg (by simp [h1])]
    rw [decide_eq_true h1] at hq1
    rw [← hu] at HC2 hq1
    have hq2 : (u.toList != []) = false := by simp [bne, hq1]
    clear hu h1
    by_cases h2 : (bs s).head? = some 47
    · rw [if_pos h2]
      rw [show begins s = true from decide_eq_true h2] at HP
      go_enter Tryz.func13, Tryz.ntmps13
      go_wp2_with (first | (go_at_call 25; first | (with_reducible refine (unhide HC _).mono ?_); rintro e w' ⟨rfl, rfl⟩ | (with_reducible refine (unhide HC2 _).mono ?_); rintro e w' ⟨rfl, rfl⟩) | (go_at_call 26; refine (unhide HD _).mono ?_; rintro e w' ⟨rfl, rfl⟩) | (go_at_call 27; refine (unhide HP _).mono ?_; rintro e w' ⟨rfl, rfl⟩))
      go_ret
      exact ⟨rfl, rfl⟩
    · rw [if_neg h2]
      rw [show begins s = false from decide_eq_false h2] at HP
      go_enter Tryz.func13, Tryz.ntmps13
      go_wp2_with (first | (go_at_call 25; first | (with_reducible refine (unhide HC _).mono ?_); rintro e w' ⟨rfl, rfl⟩ | (with_reducible refine (unhide HC2 _).mono ?_); rintro e w' ⟨rfl, rfl⟩) | (go_at_call 26; refine (unhide HD _).mono ?_; rintro e w' ⟨rfl, rfl⟩) | (go_at_call 27; refine (unhide HP _).mono ?_; rintro e w' ⟨rfl, rfl⟩))
      go_ret
      exact ⟨rfl, rfl⟩
  · rw [if_pos h1]
    rw [decide_eq_false h1] at hq1
    rw [← hu] at HC2 hq1 ⊢
    have hq2 : (u.toList != []) = true := by simp [bne, hq1]
    clear hu h1 HP
    go_enter Tryz.func13, Tryz.ntmps13
    go_wp2_with (first | (go_at_call 25; first | (with_reducible refine (unhide HC _).mono ?_); rintro e w' ⟨rfl, rfl⟩ | (with_reducible refine (unhide HC2 _).mono ?_); rintro e w' ⟨rfl, rfl⟩) | (go_at_call 26; refine (unhide HD _).mono ?_; rintro e w' ⟨rfl, rfl⟩))
    go_ret
    exact ⟨rfl, rfl⟩
theorem join_one {s t : ByteArray} (h : bs s = [] ∨ (bs s).getLast? = some 47) : tx (joinB (bs s) (bs t)) = s ++ t := by
  unfold joinB
  rw [if_pos h]
  apply ba_ext
  rw [bs_tx]
  simp [bs]
theorem join_two {s t : ByteArray} (h : ¬ (bs s = [] ∨ (bs s).getLast? = some 47)) : tx (joinB (bs s) (bs t)) = s ++ sl ++ t := by
  unfold joinB
  rw [if_neg h]
  apply ba_ext
  rw [bs_tx]
  simp [bs]
set_option maxRecDepth 100000 in
set_option maxHeartbeats 1000000 in
theorem join_any (s t : ByteArray) (w : World) (hs : s.size ≤ 1000000000) (ht : t.size ≤ 1000000000) : Calls Tryz.prog 14 #[.string s, .string t] w fun e w' => e = .returned (.string (tx (joinB (bs s) (bs t)))) ∧ w' = w := by
  have HP := hide (fun W => hasSuffix_any s W hs)
  have hq := s_beq s
  have g1 : ¬ 9223372036854775807 < s.size + t.size := by omega
  have g2 : ¬ 9223372036854775807 < s.size + 1 := by omega
  have g3 : ¬ 9223372036854775807 < s.size + 1 + t.size := by omega
  by_cases h0 : bs s = []
  · rw [join_one (.inl h0)]
    rw [decide_eq_true h0] at hq
    clear h0
    go_enter Tryz.func14, Tryz.ntmps14
    go_wp2_with fail
    go_ret
    exact ⟨rfl, rfl⟩
  rw [decide_eq_false h0] at hq
  by_cases h1 : (bs s).getLast? = some 47
  · rw [join_one (.inr h1)]
    rw [show ends s = true from decide_eq_true h1] at HP
    clear h0 h1
    go_enter Tryz.func14, Tryz.ntmps14
    go_wp2_with (go_at_call 28; refine (unhide HP _).mono ?_; rintro e w' ⟨rfl, rfl⟩)
    go_ret
    exact ⟨rfl, rfl⟩
  · rw [join_two (fun h => h.elim h0 h1)]
    rw [show ends s = false from decide_eq_false h1] at HP
    clear h0 h1
    go_enter Tryz.func14, Tryz.ntmps14
    go_wp2_with (go_at_call 28; refine (unhide HP _).mono ?_; rintro e w' ⟨rfl, rfl⟩)
    go_ret
    exact ⟨rfl, rfl⟩
end Go.Proofs.YthmoinagfooncaaGreatDoor.Pt
