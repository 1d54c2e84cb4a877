/- The law OptsNone's walk. -/
import Derived.Test.YtjnlpllibpmclaaAlive
namespace Go.Proofs.Ytjnlpllibpmclaa.Pa
open Go.RowKit

theorem isOpt_iff (s : ByteArray) (h : isOpt s.data.toList = true) : ∃ h1 : 1 < s.size, s[0] = 45 := by
  have h1 := isOpt_size h
  refine ⟨h1, ?_⟩
  unfold isOpt at h
  have e := drop_at s 0 (by omega)
  rw [List.drop_zero] at e
  rw [e] at h
  simp at h
  exact h.2
theorem isOpt_mk (s : ByteArray) (h1 : 1 < s.size) (h : (s[0].toNat : Int) = 45) : isOpt s.data.toList = true := by
  unfold isOpt
  have e := drop_at s 0 (by omega)
  rw [List.drop_zero] at e
  have hx : s[0] = 45 := UInt8.toNat_inj.1 (show s[0].toNat = (45 : UInt8).toNat from by have : (45 : UInt8).toNat = 45 := rfl; omega)
  have hl : s.data.toList.length = s.size := rfl
  rw [hl, e]
  simp [h1, hx]

/-- words of which the first one is no option -/
theorem parse_none (which : ByteArray) (ss : List ByteArray) (hn : ¬ 256 < ss.length) (h : ∀ s, ss.head? = some s → isOpt s.data.toList = false) :
    parse which ss = ([], [], 1) ∨ parse which ss = ([], ss, 0) := by
  unfold parse
  cases rd which.data.toList (fun _ => 0) with
  | none => exact .inl rfl
  | some K =>
    right
    simp only [hn, if_false]
    have : words K ss [] = some ([], ss) := by
      cases ss with
      | nil => rfl
      | cons s l =>
        have hs := h s rfl
        rw [words_cons, if_neg (by intro e; rw [e] at hs; simp [isOpt] at hs), hs]
        rfl
    rw [this]

set_option maxHeartbeats 1000000 in
theorem none_first (which : ByteArray) (a : Option Addr) (n cap : Nat) (w : World) (hn : n = 0 ∨ 256 < n) (hz : n ≤ 4611686018427387900) :
    Calls Try.prog 6 #[.string which, .slice a n cap] w fun e w' => e = .returned (.bool true) ∧ Below w.heap.size w w' := by
  rcases hn with rfl | hn
  · go_enter Try.func6, Try.ntmps6
    go_wp2_with fail
    refine (alive_any _).mono ?_
    rintro e w1 ⟨rfl, hb1⟩
    go_wp2_with fail
    refine (alive_any _).mono ?_
    rintro e w2 ⟨rfl, hb2⟩
    go_wp2_with fail
    go_ret
    exact ⟨rfl, hb1.trans (hb2.mono hb1.size)⟩
  · have h0 : ((n : Int) == 0) = false := by simp; omega
    have h1 : 256 < (n : Int) := by omega
    go_enter Try.func6, Try.ntmps6
    go_wp2_with fail
    refine (alive_any _).mono ?_
    rintro e w1 ⟨rfl, hb1⟩
    go_wp2_with fail
    refine (alive_any _).mono ?_
    rintro e w2 ⟨rfl, hb2⟩
    go_wp2_with fail
    go_ret
    exact ⟨rfl, hb1.trans (hb2.mono hb1.size)⟩

set_option maxHeartbeats 1000000 in
theorem none_opt (which s0 : ByteArray) (b off n cap : Nat) (w : World) (h0 : ((n : Int) == 0) = false) (h1 : (n : Int) ≤ 256) (h2 : 0 < n) (hc : w.cell? ⟨b, off, none⟩ = some (.string s0)) (hb : b < w.heap.size)
    (hs : s0.size ≤ 9223372036854775807) (h3 : 1 < (s0.size : Int)) (h4 : ((s0[0].toNat : Int) == 45) = true) :
    Calls Try.prog 6 #[.string which, .slice (some ⟨b, off, none⟩) n cap] w fun e w' => e = .returned (.bool true) ∧ Below w.heap.size w w' := by
  have hn' : (0 : Int) < (n : Int) := by omega
  go_enter Try.func6, Try.ntmps6
  go_wp2_with fail
  refine (alive_any _).mono ?_
  rintro e w1 ⟨rfl, hb1⟩
  have hc1 := (hb1.cell (p := ⟨b, off, none⟩) hb).trans hc
  go_wp2_with fail
  refine (alive_any _).mono ?_
  rintro e w2 ⟨rfl, hb2⟩
  go_wp2_with fail
  go_ret
  exact ⟨rfl, hb1.trans (hb2.mono hb1.size)⟩

set_option maxHeartbeats 1000000 in
theorem none_rest (which s0 : ByteArray) (b off n cap : Nat) (ss : List ByteArray) (w : World) (hT : Tx w (some ⟨b, off, none⟩) n cap ss) (h0 : ((n : Int) == 0) = false) (h1 : (n : Int) ≤ 256) (h2 : 0 < n) (hc : w.cell? ⟨b, off, none⟩ = some (.string s0)) (hb : b < w.heap.size)
    (hw : which.size ≤ 9223372036854775807) (hs : s0.size ≤ 9223372036854775807) (h3 : ¬ 1 < (s0.size : Int) ∨ (∃ h : 1 < s0.size, ((s0[0].toNat : Int) == 45) = false)) (hss : ∀ s ∈ ss, s.size ≤ maxLen)
    (hno : ∀ s, ss.head? = some s → isOpt s.data.toList = false) :
    Calls Try.prog 6 #[.string which, .slice (some ⟨b, off, none⟩) n cap] w fun e w' => e = .returned (.bool true) ∧ Below w.heap.size w w' := by
  have HT := hide hT
  have HSS := hide hss
  have HNO := hide hno
  have hl : Hid (ss.length = n) := hT.len
  have hn' : (0 : Int) < (n : Int) := by omega
  have hpar := parse_none which ss (by rw [unhide hl]; omega) hno
  have HP := hide hpar
  have htot : Hid ((∀ s, ss.head? = some s → isOpt s.data.toList = true) → tot ss ≤ 4194304) := by
    intro h
    cases hss' : ss with
    | nil => simp [tot]
    | cons s l =>
      have e1 := h s (by rw [hss']; rfl)
      have e2 := hno s (by rw [hss']; rfl)
      rw [e1] at e2
      cases e2
  clear hT hss hno hpar
  rcases h3 with h3 | ⟨h3, h4⟩
  all_goals
    by_cases hwh : 2000 < (which.size : Int)
    · go_enter Try.func6, Try.ntmps6
      go_wp2_with fail
      refine (alive_any _).mono ?_
      rintro e w1 ⟨rfl, hb1⟩
      have hc1 := (hb1.cell (p := ⟨b, off, none⟩) hb).trans hc
      go_wp2_with fail
      refine (alive_any _).mono ?_
      rintro e w2 ⟨rfl, hb2⟩
      go_wp2_with fail
      go_ret
      exact ⟨rfl, hb1.trans (hb2.mono hb1.size)⟩
    · rcases unhide HP with hp | hp
      · have HQ := hide hp
        clear hp HP
        go_enter Try.func6, Try.ntmps6
        go_wp2_with fail
        refine (alive_any _).mono ?_
        rintro e w1 ⟨rfl, hb1⟩
        have hc1 := (hb1.cell (p := ⟨b, off, none⟩) hb).trans hc
        go_wp2_with fail
        refine (parse_is (unhide HQ) _ _ _ _ ((unhide HT).below hb1) (by omega) (by omega) (unhide HSS) (unhide htot)).mono ?_
        rintro e w2 ⟨⟨af, cf, at', ct, rfl, hF, hTx⟩, hb2⟩
        clear hF hTx
        go_wp2_with fail
        go_ret
        exact ⟨rfl, hb1.trans (hb2.mono hb1.size)⟩
      · have HQ := hide hp
        clear hp HP
        go_enter Try.func6, Try.ntmps6
        go_wp2_with fail
        refine (alive_any _).mono ?_
        rintro e w1 ⟨rfl, hb1⟩
        have hc1 := (hb1.cell (p := ⟨b, off, none⟩) hb).trans hc
        go_wp2_with fail
        refine (parse_is (unhide HQ) _ _ _ _ ((unhide HT).below hb1) (by omega) (by omega) (unhide HSS) (unhide htot)).mono ?_
        rintro e w2 ⟨⟨af, cf, at', ct, rfl, hF, hTx⟩, hb2⟩
        have hB2 : Below w.heap.size w w2 := hb1.trans (hb2.mono hb1.size)
        rw [unhide hl] at hTx ⊢
        have HX := hide hTx
        clear hF hTx
        go_wp2_with fail
        refine (sameTexts_any _ _ n _ _ ct cap ss _ (by omega) (unhide HX) ((unhide HT).below hB2)).mono ?_
        rintro e w3 ⟨rfl, hb3⟩
        go_wp2_with fail
        go_ret
        exact ⟨rfl, hB2.trans (hb3.mono hB2.size)⟩

theorem none_any (which : ByteArray) (a : Option Addr) (n cap : Nat) (ss : List ByteArray) (w : World) (hT : Tx w a n cap ss) (hw : which.size ≤ 4611686018427387900) (hn : n ≤ 4611686018427387900) (hss : ∀ s ∈ ss, s.size ≤ maxLen) :
    Calls Try.prog 6 #[.string which, .slice a n cap] w fun e w' => e = .returned (.bool true) ∧ Below w.heap.size w w' := by
  by_cases h : n = 0 ∨ 256 < n
  · exact none_first which a n cap w h hn
  · rcases hT.cells with h0 | ⟨b, off, rfl, hb, hc⟩
    · omega
    · have hl := hT.len
      have hc0 : w.cell? ⟨b, off, none⟩ = some (.string (ss.getD 0 ByteArray.empty)) := by simpa using hc 0 (by omega)
      obtain ⟨s0, he⟩ : ∃ s0, s0 = ss.getD 0 ByteArray.empty := ⟨_, rfl⟩
      rw [← he] at hc0
      have hh : ss.head? = some s0 := by
        rw [List.head?_eq_getElem?, List.getElem?_eq_getElem (by omega), he]
        simp [List.getD, List.getElem?_eq_getElem (show 0 < ss.length by omega)]
      have hs0 : s0.size ≤ maxLen := hss s0 (List.mem_of_head? hh)
      unfold maxLen at hs0
      by_cases h3 : 1 < s0.size
      · cases h4 : ((s0[0].toNat : Int) == 45)
        · refine none_rest which s0 b off n cap ss w hT (by simp; omega) (by omega) (by omega) hc0 hb (by omega) (by omega) (.inr ⟨h3, h4⟩) hss fun s hs => ?_
          rw [hh] at hs
          cases hs
          cases ho : isOpt s0.data.toList
          · rfl
          · obtain ⟨_, e⟩ := isOpt_iff s0 ho
            rw [e] at h4
            exact absurd h4 (by decide)
        · exact none_opt which s0 b off n cap w (by simp; omega) (by omega) (by omega) hc0 hb (by omega) (by omega) h4
      · refine none_rest which s0 b off n cap ss w hT (by simp; omega) (by omega) (by omega) hc0 hb (by omega) (by omega) (.inl (by omega)) hss fun s hs => ?_
        rw [hh] at hs
        cases hs
        cases ho : isOpt s0.data.toList
        · rfl
        · exact absurd (isOpt_size ho) h3
end Go.Proofs.Ytjnlpllibpmclaa.Pa
