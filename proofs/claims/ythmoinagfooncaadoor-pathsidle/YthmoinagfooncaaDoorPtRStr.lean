/- The document's Base, Dir and Join. -/
import Derived.Test.YthmoinagfooncaaDoorPtStrW
namespace Go.Proofs.YthmoinagfooncaaDoor.Pt
open Go.RowKit Go.Proofs.YthmoinagfooncaaDoor.Cu

theorem last_at (s : ByteArray) (hk : s.size - 1 < s.size) : ((s[s.size - 1].toNat : Int) == 47) = ends s := by
  have e := Lib.data_getElem? s (s.size - 1) hk
  unfold ends
  have hl : (bs s).length = s.size := rfl
  rw [List.getLast?_eq_getElem?, hl]
  unfold bs
  rw [e, Bool.eq_iff_iff]
  simp only [beq_iff_eq, decide_eq_true_eq, Option.some.injEq]
  exact ⟨fun h => UInt8.toNat_inj.1 (by show _ = 47; omega), fun h => by rw [h]; rfl⟩
set_option maxRecDepth 100000 in
set_option maxHeartbeats 400000 in
theorem rslash_any (s : ByteArray) (w : World) (hs : s.size ≤ 1000000000) : Calls Tryd.prog 25 #[.string s] w fun e w' => e = .returned (.bool (ends s)) ∧ w' = w := by
  by_cases h0 : s.size = 0
  · have hv : ends s = false := by simp [ends, none_of h0]
    have hq := (s_beq s).trans (decide_eq_true (none_of h0))
    have hq2 : (s.toList != []) = false := by simp [bne, hq]
    rw [hv]
    clear hv h0
    go_enter Tryd.func25, Tryd.ntmps25
    go_wp2_with fail
    go_ret
    exact ⟨rfl, rfl⟩
  · have hq := (s_beq s).trans (decide_eq_false (fun e => h0 (by have := congrArg List.length e; exact this)))
    have hq2 : (s.toList != []) = true := by simp [bne, hq]
    have hk : s.size - 1 < s.size := by omega
    have HE := hide (last_at s hk)
    obtain ⟨k, hk1⟩ : ∃ k, k = s.size - 1 := ⟨_, rfl⟩
    have hk2 : (s.size : Int) - 1 = (k : Int) := by omega
    have HE2 : Hid (∀ h : k < s.size, ((s[k].toNat : Int) == 47) = ends s) := by subst hk1; exact fun _ => unhide HE
    have hk3 : k < s.size := by omega
    clear hk1 HE
    go_enter Tryd.func25, Tryd.ntmps25
    go_wp2_with fail
    go_ret
    exact ⟨ret_b (unhide HE2 hk3), rfl⟩
theorem bare_step (s : ByteArray) (h : ends s = true) (k : Nat) (hk : (s.size : Int) - 1 = (k : Int)) : bareB (bs (s.extract 0 k)) = bareB (bs s) ∧ (s.extract 0 k).size = k ∧ 0 < s.size := by
  unfold ends at h
  simp only [decide_eq_true_eq] at h
  have hl : (bs s).length = s.size := rfl
  have hn : bs s ≠ [] := fun e => by rw [e] at h; cases h
  have hp : 0 < s.size := by rw [← hl]; exact List.length_pos_iff.2 hn
  have e1 : bs (s.extract 0 k) = (bs s).take k := by rw [ext_tx, bs_tx]; simp
  have e2 : (bs s).take k ++ [47] = bs s := by
    have := List.dropLast_concat_getLast hn
    rw [List.dropLast_eq_take, hl, show s.size - 1 = k by omega] at this
    rw [List.getLast?_eq_some_getLast hn] at h
    rw [Option.some.inj h] at this
    exact this
  refine ⟨by rw [e1, ← bare_snoc, e2], ?_, hp⟩
  have : (bs (s.extract 0 k)).length = k := by rw [e1, List.length_take, hl]; omega
  exact this
set_option maxRecDepth 100000 in
set_option maxHeartbeats 1000000 in
theorem rbare_any (s : ByteArray) (w : World) (hs : s.size ≤ 1000000000) : Calls Tryd.prog 21 #[.string s] w fun e w' => e = .returned (.string (tx (bareB (bs s)))) ∧ w' = w := by
  obtain ⟨R, HR⟩ : ∃ R, Hid (R = bareB (bs s)) := ⟨_, rfl⟩
  rw [← unhide HR]
  go_enter Tryd.func21, Tryd.ntmps21
  go_wp2_with fail
  go_loopg [0] s.size (fun m x wr => ∃ t : ByteArray, x = .string t ∧ t.size = m ∧ m ≤ 1000000000 ∧ wr = w ∧ Hid (R = bareB (bs t)))
  case atStart => exact ⟨s, rfl, rfl, hs, rfl, HR⟩
  case round =>
    clear HR
    obtain ⟨t, rfl, hm, hml, rfl, HR⟩ := hrel
    subst hm
    cases he : ends t with
    | false =>
      have HS : Hid (∀ W, Calls Tryd.prog 25 #[.string t] W fun e w' => e = .returned (.bool false) ∧ w' = W) := fun W => by have q := rslash_any t W hml; rw [he] at q; exact q
      have HX : Hid (t = tx R) := by
        show t = tx R
        rw [unhide HR, bare_self (bs t) (by unfold ends at he; simpa using he)]
        simp [tx, bs]
      clear HR he
      go_wp2_with (go_at_call 25; refine (unhide HS _).mono ?_; rintro r x7 ⟨rfl, hw⟩; rw [hw]; clear hw x7)
      go_ret
      exact ⟨ret_s (unhide HX), rfl⟩
    | true =>
      have HS : Hid (∀ W, Calls Tryd.prog 25 #[.string t] W fun e w' => e = .returned (.bool true) ∧ w' = W) := fun W => by have q := rslash_any t W hml; rw [he] at q; exact q
      obtain ⟨k, hk1⟩ : ∃ k, k = t.size - 1 := ⟨_, rfl⟩
      have hp : 0 < t.size := (bare_step t he (t.size - 1) (by
        have : t.size ≠ 0 := fun e => by rw [show ends t = false by simp [ends, none_of e]] at he; cases he
        omega)).2.2
      have hk2 : (t.size : Int) - 1 = (k : Int) := by omega
      obtain ⟨b1, b2, -⟩ := bare_step t he k hk2
      have HR2 : Hid (R = bareB (bs (t.extract 0 k))) := by show R = _; rw [b1]; exact unhide HR
      have HZ := hide b2
      have hkt : k ≤ t.size := by omega
      clear HR he b1 b2 hk1
      go_wp2_with (go_at_call 25; refine (unhide HS _).mono ?_; rintro r x7 ⟨rfl, hw⟩; rw [hw]; clear hw x7)
      go_roundg k
      case measure => omega
      case rel => exact ⟨_, rfl, unhide HZ, by omega, rfl, HR2⟩
theorem drop_one (l : Bs) (i : Nat) (h : i < l.length) : l.take (i + 1) = l.take i ++ [l.getD i 0] := by
  rw [List.take_add_one, List.getElem?_eq_getElem h]
  simp [List.getD, List.getElem?_eq_getElem h]
set_option maxRecDepth 100000 in
set_option maxHeartbeats 1000000 in
theorem rlast_any (s : ByteArray) (w : World) (hs : s.size ≤ 1000000000) : Calls Tryd.prog 22 #[.string s] w fun e w' => e = .returned (.int .i64 (lastB (bs s))) ∧ w' = w := by
  have hl : (bs s).length = s.size := rfl
  have HQ : Hid (∀ j (h : j < s.size), s[j].toNat = ((bs s).getD j 0).toNat) := fun j h => by
    have e := Lib.data_getElem? s j h
    simp [bs, List.getD, e]
  go_enter Tryd.func22, Tryd.ntmps22
  go_wp2_with fail
  go_loopw [3, 4] (fun y x wr => ∃ n i : Nat, i ≤ s.size ∧ n ≤ i ∧ x = .int .i64 i ∧ y = .int .i64 n ∧ wr = w ∧ Hid (∀ j, n ≤ j → j < i → (bs s).getD j 0 ≠ 47) ∧ Hid (n = 0 ∨ (0 < n ∧ (bs s).getD (n - 1) 0 = 47))) (fun _ x _ => s.size - (intOf x).toNat)
  case atStart => exact ⟨0, 0, Nat.zero_le _, Nat.le_refl _, rfl, rfl, rfl, fun j _ hj => by omega, .inl rfl⟩
  case round =>
    obtain ⟨n, i, hi, hn, rfl, rfl, rfl, HI, HN⟩ := hrel
    by_cases hlt : i < s.size
    · have hi' : (i : Int) < (s.size : Int) := by omega
      by_cases h47 : (bs s).getD i 0 = 47
      · have hx : (s[i].toNat : Int) = 47 := by rw [unhide HQ i hlt, h47]; rfl
        have HN2 : Hid (i + 1 = 0 ∨ (0 < i + 1 ∧ (bs s).getD (i + 1 - 1) 0 = 47)) := .inr ⟨by omega, h47⟩
        clear HN HI h47
        go_wp2_with fail
        go_roundw
        case rel => exact ⟨i + 1, i + 1, by omega, Nat.le_refl _, by go_num, by go_num, trivial, fun j h1 h2 => by omega, HN2⟩
        case measure => simp [intOf]; omega
      · have hx : ¬ (s[i].toNat : Int) = 47 := by
          rw [unhide HQ i hlt]
          exact fun e => h47 (UInt8.toNat_inj.1 (by show _ = 47; omega))
        go_wp2_with fail
        go_roundw
        case rel =>
          refine ⟨n, i + 1, by omega, by omega, by go_num, rfl, trivial, fun j h1 h2 => ?_, HN⟩
          by_cases ej : j = i
          · rw [ej]; exact h47
          · exact unhide HI j h1 (by omega)
        case measure => simp [intOf]; omega
    · obtain rfl : i = s.size := by omega
      have h1 : ∀ x ∈ (bs s).drop n, x ≠ 47 := by
        intro x hx e
        obtain ⟨j, hj, rfl⟩ := List.getElem_of_mem hx
        rw [List.length_drop] at hj
        rw [List.getElem_drop] at e
        have := unhide HI (n + j) (by omega) (by omega)
        simp [List.getD, List.getElem?_eq_getElem (show n + j < (bs s).length by omega)] at this
        exact this e
      have h2 : n = 0 ∨ (0 < n ∧ (bs s)[n - 1]? = some 47) := by
        rcases unhide HN with h | ⟨h1, h2⟩
        · exact .inl h
        · refine .inr ⟨h1, ?_⟩
          rw [List.getElem?_eq_getElem (show n - 1 < (bs s).length by omega)]
          simp [List.getD, List.getElem?_eq_getElem (show n - 1 < (bs s).length by omega)] at h2
          exact congrArg some h2
      have HE : Hid (((n : Nat) : Int) = (lastB (bs s) : Int)) := by
        show _ = _
        rw [last_is (bs s) n h1 h2]
      clear h1 h2
      clear HI HN
      go_wp2_with fail
      go_ret
      exact ⟨ret_i (unhide HE), rfl⟩
set_option maxRecDepth 100000 in
set_option maxHeartbeats 400000 in
theorem rbase_any (s : ByteArray) (w : World) (hs : s.size ≤ 1000000000) : Calls Tryd.prog 9 #[.string s] w fun e w' => e = .returned (.string (tx (baseB (bs s)))) ∧ w' = w := by
  have hl : (bs s).length = s.size := rfl
  by_cases h0 : bs s = []
  · have hv : baseB (bs s) = [46] := by unfold baseB; rw [if_pos h0]
    rw [hv]
    have hq := (s_beq s).trans (decide_eq_true h0)
    go_enter Tryd.func9, Tryd.ntmps9
    go_wp2_with fail
    go_ret
    exact ⟨rfl, rfl⟩
  have hq := (s_beq s).trans (decide_eq_false h0)
  have HC := hide (fun W => rbare_any s W hs)
  obtain ⟨b, hb⟩ : ∃ b, b = bareB (bs s) := ⟨_, rfl⟩
  have hbl : b.length ≤ 1000000000 := by rw [hb]; have := bare_le (bs s); omega
  have hv : baseB (bs s) = if b = [] then [47] else b.drop (lastB b) := by unfold baseB; rw [if_neg h0, ← hb]
  rw [← hb] at HC
  rw [hv]
  clear hv hb
  by_cases h1 : b = []
  · rw [if_pos h1]
    have hq1 := (tx_beq b).trans (decide_eq_true h1)
    obtain ⟨t, ht⟩ : ∃ t, t = tx b := ⟨_, rfl⟩
    rw [← ht] at HC hq1
    clear ht h1
    go_enter Tryd.func9, Tryd.ntmps9
    go_wp2_with (go_at_call 21; refine (unhide HC _).mono ?_; rintro e w' ⟨rfl, rfl⟩)
    go_ret
    exact ⟨rfl, rfl⟩
  · rw [if_neg h1]
    have hq1 := (tx_beq b).trans (decide_eq_false h1)
    have HD : Hid (∀ W, Calls Tryd.prog 22 #[.string (tx b)] W fun e w' => e = .returned (.int .i64 (lastB b)) ∧ w' = W) := fun W => by have := rlast_any (tx b) W (by rw [size_tx]; exact hbl); rw [bs_tx] at this; exact this
    have HX := hide (ext_drop b (lastB b))
    have hle : lastB b ≤ (tx b).size := by rw [size_tx]; exact last_le b
    generalize lastB b = k at *
    obtain ⟨t, ht⟩ : ∃ t, t = tx b := ⟨_, rfl⟩
    rw [← ht] at HC HD HX hle hq1
    clear ht h1
    go_enter Tryd.func9, Tryd.ntmps9
    go_wp2_with (first | (go_at_call 21; refine (unhide HC _).mono ?_; rintro e w' ⟨rfl, rfl⟩) | (go_at_call 22; refine (unhide HD _).mono ?_; rintro e w' ⟨rfl, rfl⟩))
    go_ret
    exact ⟨ret_s (unhide HX), rfl⟩
theorem first_is (s : ByteArray) (h : 0 < s.size) : ((s[0].toNat : Int) == 47) = decide ((bs s).head? = some 47) := by
  have e := Lib.data_getElem? s 0 h
  have e2 : (bs s).head? = some s[0] := by rw [List.head?_eq_getElem?]; exact e
  rw [e2, Bool.eq_iff_iff]
  simp only [beq_iff_eq, decide_eq_true_eq, Option.some.injEq]
  exact ⟨fun h => UInt8.toNat_inj.1 (by show _ = 47; omega), fun h => by rw [h]; rfl⟩
set_option maxRecDepth 100000 in
set_option maxHeartbeats 1000000 in
theorem rdir_any (s : ByteArray) (w : World) (hs : s.size ≤ 1000000000) : Calls Tryd.prog 11 #[.string s] w fun e w' => e = .returned (.string (tx (dirB (bs s)))) ∧ w' = w := by
  have hl : (bs s).length = s.size := rfl
  have HC := hide (fun W => rbare_any s W hs)
  obtain ⟨b, hb⟩ : ∃ b, b = bareB (bs s) := ⟨_, rfl⟩
  have hbl : b.length ≤ 1000000000 := by rw [hb]; have := bare_le (bs s); omega
  have hv : dirB (bs s) = if bareB (b.take (lastB b)) ≠ [] then bareB (b.take (lastB b)) else if (bs s).head? = some 47 then [47] else [46] := by unfold dirB; rw [← hb]
  rw [← hb] at HC
  rw [hv]
  clear hv hb
  have HD : Hid (∀ W, Calls Tryd.prog 22 #[.string (tx b)] W fun e w' => e = .returned (.int .i64 (lastB b)) ∧ w' = W) := fun W => by have := rlast_any (tx b) W (by rw [size_tx]; exact hbl); rw [bs_tx] at this; exact this
  have HC2 : Hid (∀ W, Calls Tryd.prog 21 #[.string ((tx b).extract 0 (lastB b))] W fun e w' => e = .returned (.string (tx (bareB (b.take (lastB b))))) ∧ w' = W) := fun W => by
    rw [ext_take]
    have := rbare_any (tx (b.take (lastB b))) W (by rw [size_tx, List.length_take]; omega)
    rw [bs_tx] at this; exact this
  have hfirst := first_is s
  have hq0 := s_beq s
  have hle : lastB b ≤ (tx b).size := by rw [size_tx]; exact last_le b
  have hq1 := tx_beq (bareB (b.take (lastB b)))
  obtain ⟨h, hh⟩ : ∃ h, h = bareB (b.take (lastB b)) := ⟨_, rfl⟩
  rw [← hh] at HC2 hq1 ⊢
  generalize lastB b = k at *
  generalize tx b = t at *
  clear hh hbl hl
  obtain ⟨u, hu⟩ : ∃ u, u = tx h := ⟨_, rfl⟩
  by_cases h1 : h = []
  · rw [if_neg (by simp [h1])]
    rw [decide_eq_true h1] at hq1
    rw [← hu] at HC2 hq1
    have hq2 : (u.toList != []) = false := by simp [bne, hq1]
    clear hu h1
    by_cases h0 : bs s = []
    · rw [if_neg (by rw [h0]; simp)]
      rw [decide_eq_true h0] at hq0
      have hq3 : (s.toList != []) = false := by simp [bne, hq0]
      clear h0 hfirst
      go_enter Tryd.func11, Tryd.ntmps11
      go_wp2_with (first | (go_at_call 21; first | (with_reducible refine (unhide HC _).mono ?_); rintro e w' ⟨rfl, rfl⟩ | (with_reducible refine (unhide HC2 _).mono ?_); rintro e w' ⟨rfl, rfl⟩) | (go_at_call 22; refine (unhide HD _).mono ?_; rintro e w' ⟨rfl, rfl⟩))
      go_ret
      exact ⟨rfl, rfl⟩
    rw [decide_eq_false h0] at hq0
    have hq3 : (s.toList != []) = true := by simp [bne, hq0]
    have hp : 0 < s.size := by
      refine Nat.pos_of_ne_zero fun e => h0 (none_of e)
    have hf := hfirst hp
    clear h0 hfirst
    by_cases h2 : (bs s).head? = some 47
    · rw [if_pos h2]
      rw [decide_eq_true h2] at hf
      have hf2 : (s[0].toNat : Int) = 47 := by simpa using hf
      go_enter Tryd.func11, Tryd.ntmps11
      go_wp2_with (first | (go_at_call 21; first | (with_reducible refine (unhide HC _).mono ?_); rintro e w' ⟨rfl, rfl⟩ | (with_reducible refine (unhide HC2 _).mono ?_); rintro e w' ⟨rfl, rfl⟩) | (go_at_call 22; refine (unhide HD _).mono ?_; rintro e w' ⟨rfl, rfl⟩))
      go_ret
      exact ⟨rfl, rfl⟩
    · rw [if_neg h2]
      rw [decide_eq_false h2] at hf
      have hf2 : ¬ (s[0].toNat : Int) = 47 := by simpa using hf
      go_enter Tryd.func11, Tryd.ntmps11
      go_wp2_with (first | (go_at_call 21; first | (with_reducible refine (unhide HC _).mono ?_); rintro e w' ⟨rfl, rfl⟩ | (with_reducible refine (unhide HC2 _).mono ?_); rintro e w' ⟨rfl, rfl⟩) | (go_at_call 22; refine (unhide HD _).mono ?_; rintro e w' ⟨rfl, rfl⟩))
      go_ret
      exact ⟨rfl, rfl⟩
  · rw [if_pos h1]
    rw [decide_eq_false h1] at hq1
    rw [← hu] at HC2 hq1 ⊢
    have hq2 : (u.toList != []) = true := by simp [bne, hq1]
    clear hu h1 hfirst hq0
    go_enter Tryd.func11, Tryd.ntmps11
    go_wp2_with (first | (go_at_call 21; first | (with_reducible refine (unhide HC _).mono ?_); rintro e w' ⟨rfl, rfl⟩ | (with_reducible refine (unhide HC2 _).mono ?_); rintro e w' ⟨rfl, rfl⟩) | (go_at_call 22; refine (unhide HD _).mono ?_; rintro e w' ⟨rfl, rfl⟩))
    go_ret
    exact ⟨rfl, rfl⟩
set_option maxRecDepth 100000 in
set_option maxHeartbeats 1000000 in
theorem rjoin_any (s t : ByteArray) (w : World) (hs : s.size ≤ 1000000000) (ht : t.size ≤ 1000000000) : Calls Tryd.prog 13 #[.string s, .string t] w fun e w' => e = .returned (.string (tx (joinB (bs s) (bs t)))) ∧ w' = w := by
  have HP := hide (fun W => rslash_any s W hs)
  have hq := s_beq s
  have g1 : ¬ 9223372036854775807 < s.size + t.size := by omega
  have g2 : ¬ 9223372036854775807 < s.size + 1 := by omega
  have g3 : ¬ 9223372036854775807 < s.size + 1 + t.size := by omega
  by_cases h0 : bs s = []
  · have hv : tx (joinB (bs s) (bs t)) = t := by unfold joinB; rw [if_pos (.inl h0), h0]; simp [tx, bs]
    rw [hv]
    rw [decide_eq_true h0] at hq
    clear h0
    go_enter Tryd.func13, Tryd.ntmps13
    go_wp2_with fail
    go_ret
    exact ⟨rfl, rfl⟩
  rw [decide_eq_false h0] at hq
  by_cases h1 : (bs s).getLast? = some 47
  · rw [join_one (.inr h1)]
    rw [show ends s = true from decide_eq_true h1] at HP
    clear h0 h1
    go_enter Tryd.func13, Tryd.ntmps13
    go_wp2_with (go_at_call 25; refine (unhide HP _).mono ?_; rintro e w' ⟨rfl, rfl⟩)
    go_ret
    exact ⟨rfl, rfl⟩
  · rw [join_two (fun h => h.elim h0 h1)]
    rw [show ends s = false from decide_eq_false h1] at HP
    clear h0 h1
    go_enter Tryd.func13, Tryd.ntmps13
    go_wp2_with (go_at_call 25; refine (unhide HP _).mono ?_; rintro e w' ⟨rfl, rfl⟩)
    go_ret
    exact ⟨rfl, rfl⟩
end Go.Proofs.YthmoinagfooncaaDoor.Pt
