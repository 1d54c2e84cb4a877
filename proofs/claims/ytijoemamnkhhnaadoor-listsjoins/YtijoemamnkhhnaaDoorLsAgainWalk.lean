/- The law ListsAgain: walked. -/
import Derived.Test.YtijoemamnkhhnaaDoorLsBackWalk
namespace Go.Proofs.YtijoemamnkhhnaaDoor.Ls
open Go.RowKit Go.Shelf

theorem parseE_cases (s : List UInt8) : (parseE s = 0 ∧ s.length ≤ 4096 ∧ parse s = some (parseL s)) ∨ ((parseE s = 5 ∨ parseE s = 3) ∧ parseL s = []) := by
  by_cases h : 4096 < s.length
  · right; exact ⟨.inr (parse_long h).2, (parse_long h).1⟩
  · cases hp : parse s with
    | none => right; have := parse_none (by omega) hp; exact ⟨.inl this.2, this.1⟩
    | some l => left; have := parse_some (by omega) hp; exact ⟨this.2, by omega, by rw [this.1]⟩
/-- a list that was read: told, or too long -/
theorem again_text {s : List UInt8} {l : List R} (h : parse s = some l) : l ≠ [] ∧ ((textE l = 3 ∧ textL l = [] ∧ 1000 < s.length) ∨ (textE l = 0 ∧ textL l = tell l ∧ (tell l).length ≤ 4096 ∧ (tell l).length ≤ s.length + l.length ∧ may l = true)) := by
  obtain ⟨h1, h2, h3, h4⟩ := parse_ok h
  have hm : may l = true := by
    unfold may
    rw [h2]
    cases l with
    | nil => exact absurd rfl h1
    | cons r l => rfl
  refine ⟨h1, ?_⟩
  unfold textE textL
  rw [hm]
  by_cases h5 : 4096 < (tell l).length
  · left; refine ⟨by simp [h5], by simp; omega, by omega⟩
  · right; refine ⟨by simp [h5], by simp; omega, by omega, h3, rfl⟩

set_option maxRecDepth 100000 in
set_option maxHeartbeats 1000000 in
theorem again_walk (s : ByteArray) (w : World) (hs : s.size ≤ 4611686018427387904) (ht : Tab w) :
    Calls Tryd.prog 5 #[.string s] w fun e w' => e = .returned (.bool true) ∧ Below w.heap.size w w' := by
  have HT := hide ht
  clear ht
  go_enter Tryd.func5, Tryd.ntmps5
  go_wp2_with fail
  refine (alive_any _ (unhide HT)).mono ?_
  rintro e w1 ⟨rfl, hb1⟩
  have HT1 := hide ((unhide HT).below hb1)
  clear HT
  by_cases hb : 1048576 < (s.size : Int)
  · go_wp2_with fail
    refine (Beyond.beyond_one s.size _ _ (by simp) (by omega) (by omega)).mono ?_
    rintro e w2 ⟨rfl, rfl⟩
    go_wp2_with fail
    refine (alive_any _ ((unhide HT1).below ((Below.refl _ _).alloc (Nat.le_refl _) _))).mono ?_
    rintro e w3 ⟨rfl, hb3⟩
    go_wp2_with fail
    go_ret
    exact ⟨rfl, (hb1.alloc hb1.size _).trans (hb3.mono (by have := hb1.size; simp; omega))⟩
  · go_wp2_with fail
    refine (Beyond.beyond_one s.size _ _ (by simp) (by omega) (by omega)).mono ?_
    rintro e w2 ⟨rfl, rfl⟩
    obtain ⟨W, hW⟩ : ∃ W, W = w1.alloc (.cells #[.int .i64 s.size] 3) := ⟨_, rfl⟩
    have hBW : Below w1.heap.size w1 W := by rw [hW]; exact (Below.refl _ _).alloc (Nat.le_refl _) _
    have HT2 := hide ((unhide HT1).below hBW)
    have hB2 : Below w.heap.size w W := hb1.trans (hBW.mono hb1.size)
    rw [← hW]
    clear hW HT1 hBW hb1
    rcases parseE_cases (bs s) with ⟨h0, hl, hp⟩ | ⟨h0, hL⟩
    · obtain ⟨l, hL⟩ : ∃ l, parseL (bs s) = l := ⟨_, rfl⟩
      rw [hL] at hp
      have C3 := hide (parse_is W (by omega) hL h0)
      obtain ⟨hne, hcase⟩ := again_text hp
      have hlen : 0 < l.length := List.length_pos_iff.2 hne
      have hlen2 : l.length ≤ 4096 := by have := (parse_ok hp).2.2.2; rw [bs_len] at this; rw [bs_len] at hl; omega
      clear hne hp hL h0 hl
      go_wp2_with fail
      refine (unhide C3).mono ?_
      rintro e w3 ⟨a3, c3, rfl, hR3, hb3⟩
      have HR3 := hide hR3
      have hB3 : Below w.heap.size w w3 := hB2.trans (hb3.mono hB2.size)
      have HT3 := hide ((unhide HT2).below hb3)
      clear hR3 hb3 hB2 HT2 C3
      rcases hcase with ⟨h1, h2, h3⟩ | ⟨h1, h2, h3, h4, h5⟩
      · have C4 := hide (text_is (cap := c3) (t := { data := #[] }) (unhide HR3) (by omega) (unhide HT3) (by rw [h2]) h1)
        have h3' : (1000 : Int) < (s.size : Int) := by rw [bs_len] at h3; omega
        clear h1 h2 h3
        go_wp2_with fail
        refine (unhide C4).mono ?_
        rintro e w4 ⟨rfl, hb4⟩
        go_wp2_with fail
        go_ret
        exact ⟨rfl, hB3.trans (hb4.mono hB3.size)⟩
      · have C4 := hide (text_is (cap := c3) (t := ⟨(tell l).toArray⟩) (unhide HR3) (by omega) (unhide HT3) (by rw [h2]) h1)
        have hp := hide (back_parse h5 h3)
        obtain ⟨t, htt⟩ : ∃ t : ByteArray, t = ⟨(tell l).toArray⟩ := ⟨_, rfl⟩
        have hp' : Hid (parseL (bs t) = l ∧ parseE (bs t) = 0) := by rw [htt]; exact hp
        have hts : (t.size : Int) ≤ (s.size : Int) + (l.length : Int) := by
          have : t.size = (tell l).length := by rw [htt]; rfl
          rw [bs_len] at h4; omega
        have hts2 : t.size ≤ 4096 := by
          have : t.size = (tell l).length := by rw [htt]; rfl
          omega
        rw [← htt] at C4
        clear htt h1 h2 h3 h4 h5 hp
        go_wp2_with fail
        refine (unhide C4).mono ?_
        rintro e w4 ⟨rfl, hb4⟩
        have HR4 := hide ((unhide HR3).below hb4)
        have hB4 : Below w.heap.size w w4 := hB3.trans (hb4.mono hB3.size)
        have C5 := hide (parse_is w4 (by omega) (unhide hp').1 (unhide hp').2)
        clear C4 hb4 hB3 HR3 HT3
        go_wp2_with fail
        refine (unhide C5).mono ?_
        rintro e w5 ⟨a5, c5, rfl, hR5, hb5⟩
        have hB5 : Below w.heap.size w w5 := hB4.trans (hb5.mono hB4.size)
        have C6 := hide (same_any a3 a5 l.length c3 c5 c3 c5 l w5 (by omega) ((unhide HR4).below hb5) hR5)
        clear C5 hb5 hB4 HR4 hR5
        go_wp2_with fail
        refine (unhide C6).mono ?_
        rintro e w6 ⟨rfl, hb6⟩
        go_wp2_with fail
        go_ret
        exact ⟨rfl, hB5.trans (hb6.mono hB5.size)⟩
    · rcases h0 with h0 | h0
      all_goals
        have C3 := hide (parse_is W (by omega) hL h0)
        clear h0 hL
        go_wp2_with fail
        refine (unhide C3).mono ?_
        rintro e w3 ⟨a3, c3, rfl, hR3, hb3⟩
        clear hR3
        go_wp2_with fail
        go_ret
        exact ⟨rfl, hB2.trans (hb3.mono hB2.size)⟩
end Go.Proofs.YtijoemamnkhhnaaDoor.Ls
