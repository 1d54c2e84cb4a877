/- The law ListsTells: walked. -/
import Derived.Test.YtijoemamnkhhnaaDoorLsRefText
import Derived.Test.YtijoemamnkhhnaaDoorBeyond
namespace Go.Proofs.YtijoemamnkhhnaaDoor.Ls
open Go.RowKit Go.Shelf

set_option maxHeartbeats 400000 in
theorem rtext_none (a : Option Addr) (cap : Nat) (w : World) :
    Calls Tryd.prog 11 #[.slice a 0 cap] w fun e w' => e = .returned (.tuple #[.string { data := #[] }, .int .i64 1]) ∧ w' = w := by
  go_enter Tryd.func11, Tryd.ntmps11
  go_wp2
  go_ret2
  exact ⟨rfl, rfl⟩
theorem rtext_any (a : Option Addr) (len cap c' : Nat) (rs : List R) (w : World) (h : Rg w a len c' rs) (hlen : len ≤ 4611686018427387904) :
    Calls Tryd.prog 11 #[.slice a len cap] w fun e w' => e = .returned (textV rs) ∧ Below w.heap.size w w' := by
  by_cases h0 : len = 0
  · subst h0
    obtain rfl : rs = [] := List.eq_nil_of_length_eq_zero h.len
    exact (rtext_none a cap w).mono fun _ _ ⟨h1, h2⟩ => ⟨h1.trans (textV_arg rfl), h2 ▸ Below.refl _ _⟩
  · rcases h.cells with h1 | ⟨b, off, rfl, hb, hc⟩
    · exact absurd h1 h0
    · exact rtext_some b off len cap rs w hc hb h.len hlen (by omega)

set_option maxRecDepth 100000 in
set_option maxHeartbeats 1000000 in
theorem tells_walk (a : Option Addr) (len cap : Nat) (rs : List R) (n : Int) (w : World) (h : Rg w a len cap rs) (hlen : len ≤ 4611686018427387904) (ht : Tab w) :
    Calls Tryd.prog 3 #[.slice a len cap, .int .i64 n] w fun e w' => e = .returned (.bool true) ∧ Below w.heap.size w w' := by
  have HR := hide h
  have HT := hide ht
  clear h ht
  by_cases hb : 1048576 < (len : Int)
  · go_enter Tryd.func3, Tryd.ntmps3
    go_wp2_with fail
    refine (Beyond.beyond_one len _ _ (by simp) (by omega) (by omega)).mono ?_
    rintro e w2 ⟨rfl, rfl⟩
    go_wp2_with fail
    go_ret
    exact ⟨rfl, (Below.refl _ _).alloc (Nat.le_refl _) _⟩
  · obtain ⟨T, hT⟩ : ∃ T : ByteArray, (⟨(textL rs).toArray⟩ : ByteArray) = T := ⟨_, rfl⟩
    obtain ⟨N, hN⟩ : ∃ N : Int, textE rs = N := ⟨_, rfl⟩
    have HTX : Hid (textV rs = .tuple #[.string T, .int .i64 N]) := by show _ = _; unfold textV; rw [hT, hN]
    clear hT hN
    go_enter Tryd.func3, Tryd.ntmps3
    go_wp2_with fail
    refine (Beyond.beyond_one len _ _ (by simp) (by omega) (by omega)).mono ?_
    rintro e w2 ⟨rfl, rfl⟩
    obtain ⟨W, hW⟩ : ∃ W, W = w.alloc (.cells #[.int .i64 len] 3) := ⟨_, rfl⟩
    have hB2 : Below w.heap.size w W := by rw [hW]; exact (Below.refl _ _).alloc (Nat.le_refl _) _
    have HR2 := hide ((unhide HR).below hB2)
    have HT2 := hide ((unhide HT).below hB2)
    rw [← hW]
    clear hW HR HT
    have C3 := hide (twin_any a len cap cap rs W (unhide HR2) (by omega))
    go_wp2_with fail
    refine (unhide C3).mono ?_
    rintro e w3 ⟨rfl, htw, hb3, hs3⟩
    have hB3 : Below w.heap.size w w3 := hB2.trans (hb3.mono hB2.size)
    have HR3 := hide ((unhide HR2).below hb3)
    have HT3 := hide ((unhide HT2).below hb3)
    have HW3 := hide htw
    have hg3 : Hid (W.heap.size < w3.heap.size) := hs3
    have C4 := hide (text_any (some ⟨W.heap.size, 0, none⟩) len (len + 1) (len + 1) rs w3 ((unhide HR3).len ▸ (unhide HW3).rg hs3) hlen (unhide HT3))
    rw [unhide HTX] at C4
    clear C3 htw hb3 hs3 hB2 HR2 HT2
    go_wp2_with fail
    refine (unhide C4).mono ?_
    rintro e w4 ⟨rfl, hb4⟩
    have hB4 : Below w.heap.size w w4 := hB3.trans (hb4.mono hB3.size)
    have HR4 := hide ((unhide HR3).below hb4)
    have HW4 := hide ((unhide HW3).below (unhide hg3) hb4)
    have hg4 : Hid (W.heap.size < w4.heap.size) := Nat.lt_of_lt_of_le (unhide hg3) hb4.size
    have C5 := hide (rtext_any a len cap cap rs w4 (unhide HR4) hlen)
    rw [unhide HTX] at C5
    clear C4 hb4 hB3 HR3 HW3 hg3 HT3
    go_wp2_with fail
    refine (unhide C5).mono ?_
    rintro e w5 ⟨rfl, hb5⟩
    have hB5 : Below w.heap.size w w5 := hB4.trans (hb5.mono hB4.size)
    have HR5 := hide ((unhide HR4).below hb5)
    have HW5 := hide ((unhide HW4).below (unhide hg4) hb5)
    have hg5 : Hid (W.heap.size < w5.heap.size) := Nat.lt_of_lt_of_le (unhide hg4) hb5.size
    have C6 := hide (has_any (some ⟨W.heap.size, 0, none⟩) len (len + 1) (len + 1) rs n w5 ((unhide HR5).len ▸ (unhide HW5).rg (unhide hg5)) hlen)
    clear C5 hb5 hB4 HR4 HW4 hg4
    obtain ⟨v, hv⟩ : ∃ v, has rs n = v := ⟨_, rfl⟩
    rw [hv] at C6
    have HV := hide hv
    clear hv
    go_wp2_with fail
    refine (unhide C6).mono ?_
    rintro e w6 ⟨rfl, hb6⟩
    have hB6 : Below w.heap.size w w6 := hB5.trans (hb6.mono hB5.size)
    have HR6 := hide ((unhide HR5).below hb6)
    have HW6 := hide ((unhide HW5).below (unhide hg5) hb6)
    have hg6 : Hid (W.heap.size < w6.heap.size) := Nat.lt_of_lt_of_le (unhide hg5) hb6.size
    have C7 := hide (rhas_any a len cap cap rs n w6 (unhide HR6) hlen)
    rw [unhide HV] at C7
    clear C6 hb6 hB5 HR5 HW5 hg5
    go_wp2_with fail
    refine (unhide C7).mono ?_
    rintro e w7 ⟨rfl, rfl⟩
    have C8 := hide (left_any W.heap.size a len cap cap rs _ (unhide HR6) (by omega) (unhide HW6) (unhide hg6))
    clear C7
    go_wp2_with fail
    refine (unhide C8).mono ?_
    rintro e w8 ⟨rfl, hb8⟩
    go_wp2_with fail
    go_ret
    exact ⟨rfl, hB6.trans (hb8.mono hB6.size)⟩
end Go.Proofs.YtijoemamnkhhnaaDoor.Ls
