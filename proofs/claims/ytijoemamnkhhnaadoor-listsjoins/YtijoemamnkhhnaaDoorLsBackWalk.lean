/- The law ListsBack: walked. -/
import Derived.Test.YtijoemamnkhhnaaDoorLsAlive
import Derived.Test.YtijoemamnkhhnaaDoorBeyond
namespace Go.Proofs.YtijoemamnkhhnaaDoor.Ls
open Go.RowKit Go.Shelf

theorem textE_cases (rs : List R) : (textE rs = 0 ∧ may rs = true ∧ textL rs = tell rs ∧ (tell rs).length ≤ 4096) ∨ ((textE rs = 1 ∨ textE rs = 3) ∧ textL rs = []) := by
  unfold textE textL
  cases h : may rs
  · right; simp
  · by_cases h2 : 4096 < (tell rs).length
    · right; simp [h2]; omega
    · left; simp [h2]; omega
theorem may_split {rs : List R} (h : may rs = true) : rs ≠ [] ∧ rs.all okR = true := by
  unfold may at h
  simp only [Bool.and_eq_true] at h
  exact ⟨by rintro rfl; simp at h, h.1⟩
theorem back_parse {rs : List R} (h : may rs = true) (hl : (tell rs).length ≤ 4096) : parseL (tell rs) = rs ∧ parseE (tell rs) = 0 :=
  parse_some hl (parse_tell rs (may_split h).1 (may_split h).2)

set_option maxRecDepth 100000 in
set_option maxHeartbeats 1000000 in
theorem back_walk (a : Option Addr) (len cap : Nat) (rs : List R) (w : World) (h : Rg w a len cap rs) (hlen : len ≤ 4611686018427387904) (ht : Tab w) :
    Calls Tryd.prog 4 #[.slice a len cap] w fun e w' => e = .returned (.bool true) ∧ Below w.heap.size w w' := by
  have HR := hide h
  have HT := hide ht
  clear h ht
  go_enter Tryd.func4, Tryd.ntmps4
  go_wp2_with fail
  refine (alive_any _ (unhide HT)).mono ?_
  rintro e w1 ⟨rfl, hb1⟩
  have HR1 := hide ((unhide HR).below hb1)
  have HT1 := hide ((unhide HT).below hb1)
  clear HR HT
  by_cases hb : 1048576 < (len : Int)
  · go_wp2_with fail
    refine (Beyond.beyond_one len _ _ (by simp) (by omega) (by omega)).mono ?_
    rintro e w2 ⟨rfl, rfl⟩
    go_wp2_with fail
    refine (alive_any _ ((unhide HT1).below ((Below.refl _ _).alloc (Nat.le_refl _) _))).mono ?_
    rintro e w3 ⟨rfl, hb3⟩
    go_wp2_with fail
    go_ret
    exact ⟨rfl, (hb1.alloc hb1.size _).trans (hb3.mono (by have := hb1.size; simp; omega))⟩
  · go_wp2_with fail
    refine (Beyond.beyond_one len _ _ (by simp) (by omega) (by omega)).mono ?_
    rintro e w2 ⟨rfl, rfl⟩
    obtain ⟨W, hW⟩ : ∃ W, W = w1.alloc (.cells #[.int .i64 len] 3) := ⟨_, rfl⟩
    have hBW : Below w1.heap.size w1 W := by rw [hW]; exact (Below.refl _ _).alloc (Nat.le_refl _) _
    have HR2 := hide ((unhide HR1).below hBW)
    have HT2 := hide ((unhide HT1).below hBW)
    have hB2 : Below w.heap.size w W := hb1.trans (hBW.mono hb1.size)
    rw [← hW]
    clear hW HR1 HT1 hBW hb1
    rcases textE_cases rs with ⟨h0, hm, hL, hl⟩ | ⟨h0, hL⟩
    · have C3 := hide (text_is (cap := cap) (t := ⟨(tell rs).toArray⟩) (unhide HR2) hlen (unhide HT2) (by rw [hL]) h0)
      have hp := hide (back_parse hm hl)
      have hts : (⟨(tell rs).toArray⟩ : ByteArray).size ≤ 4096 := hl
      obtain ⟨t, htt⟩ : ∃ t : ByteArray, t = ⟨(tell rs).toArray⟩ := ⟨_, rfl⟩
      have hp' : Hid (parseL (bs t) = rs ∧ parseE (bs t) = 0) := by rw [htt]; exact hp
      rw [← htt] at C3 hts
      clear htt h0 hm hL hl hp
      go_wp2_with fail
      refine (unhide C3).mono ?_
      rintro e w3 ⟨rfl, hb3⟩
      have HR3 := hide ((unhide HR2).below hb3)
      have hB3 : Below w.heap.size w w3 := hB2.trans (hb3.mono hB2.size)
      have C4 := hide (parse_is w3 (by omega) (unhide hp').1 (unhide hp').2)
      clear C3 hb3 hB2 HR2 HT2
      go_wp2_with fail
      refine (unhide C4).mono ?_
      rintro e w4 ⟨a4, c4, rfl, hR4, hb4⟩
      have hB4 : Below w.heap.size w w4 := hB3.trans (hb4.mono hB3.size)
      have hl := (unhide HR3).len
      rw [hl] at hR4 ⊢
      have HR4 := hide hR4
      have C5 := hide (same_any a4 a len c4 cap c4 cap rs w4 hlen (unhide HR4) ((unhide HR3).below hb4))
      clear C4 hb4 hB3 HR3 hl hR4
      go_wp2_with fail
      refine (unhide C5).mono ?_
      rintro e w5 ⟨rfl, hb5⟩
      go_wp2_with fail
      go_ret
      exact ⟨rfl, hB4.trans (hb5.mono hB4.size)⟩
    · rcases h0 with h0 | h0
      all_goals
        have C3 := hide (text_is (cap := cap) (t := { data := #[] }) (unhide HR2) hlen (unhide HT2) (by rw [hL]) h0)
        clear h0 hL
        go_wp2_with fail
        refine (unhide C3).mono ?_
        rintro e w3 ⟨rfl, hb3⟩
        go_wp2_with fail
        go_ret
        exact ⟨rfl, hB2.trans (hb3.mono hB2.size)⟩
end Go.Proofs.YtijoemamnkhhnaaDoor.Ls
