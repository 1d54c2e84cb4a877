/- The law ViewsRest's walk. -/
import Derived.Test.YtoignkaldlohmabDoorVwAlive
import Derived.Test.YtoignkaldlohmabDoorVwRestP
set_option linter.unusedVariables false
namespace Go.Proofs.YtoignkaldlohmabDoor.Vw
open Go.RowKit Cu
open Pa (Tx tot)

theorem mem_tot : ∀ (F : List Bs) (x : Bs), x ∈ F → x.length ≤ totL F
  | [], x, h => by simp at h
  | y :: F, x, h => by
    simp only [totL]
    rcases List.mem_cons.1 h with rfl | h
    · omega
    · have := mem_tot F x h; omega

set_option maxRecDepth 100000 in
set_option maxHeartbeats 1000000 in
theorem viewsRest_any (s : ByteArray) (sep : UInt8) (at_ : Nat) (w : World) (hat : at_ ≤ 255) (hs : s.size ≤ 4611686018427387904) (hT : Tz w) :
    Calls Tryd.prog 5 #[.string s, .int .u8 (sep.toNat : Int), .int .u8 (at_ : Int)] w fun e w' => e = .returned (.bool true) ∧ Below w.heap.size w w' := by
  have AL : Hid (∀ W, Below w.heap.size w W → Calls Tryd.prog 8 #[] W fun e w' => e = .returned (.bool true) ∧ Below W.heap.size W w') := fun W hW => alive_any W (hT.below hW)
  go_enter Tryd.func5, Tryd.ntmps5
  go_wp2_with fail
  refine (unhide AL _ (Below.refl _ _)).mono ?_
  rintro e w1 ⟨rfl, b1⟩
  have B1 := hide b1
  clear b1
  by_cases hno : 5000 < (s.size : Int) ∨ sep.toNat = 0 ∨ sep.toNat = 10
  · have hno' : (decide (5000 < (s.size : Int)) || ((sep.toNat : Int) == 0) || ((sep.toNat : Int) == 10)) = true := by
      rcases hno with h | h | h
      · simp [h]
      · simp [h]
      · simp [h]
    go_wp2_with fail
    all_goals
      refine (unhide AL _ (unhide B1)).mono ?_
      rintro e w3 ⟨rfl, b3⟩
      have B3 := hide ((unhide B1).trans (b3.mono (unhide B1).size))
      clear b3 B1
      go_wp2_with fail
      go_ret
      exact ⟨rfl, unhide B3⟩
  have hd1 : decide (5000 < (s.size : Int)) = false := by simp; omega
  have hd2 : ((sep.toNat : Int) == 0) = false := by rw [beq_eq_false_iff_ne]; omega
  have hd3 : ((sep.toNat : Int) == 10) = false := by rw [beq_eq_false_iff_ne]; omega
  have hs0 : sep ≠ 0 := fun e => hno (.inr (.inl (by rw [e]; rfl)))
  have hs10 : sep ≠ 10 := fun e => hno (.inr (.inr (by rw [e]; rfl)))
  have hsz : s.size ≤ 5000 := by omega
  have hF1 := hide (fun W => Ln.fields_any s sep.toNat W (by omega) sep.toNat_lt)
  go_wp2_with fail
  refine (unhide hF1 _).mono ?_
  rintro e w2 ⟨v2, rfl, hO2, b2⟩
  have B2 := hide ((unhide B1).trans (b2.mono (unhide B1).size))
  clear b2 B1 hF1
  have hfl := fields_len sep.toNat (bs s)
  have hpos := fields_some sep.toNat (fun e => hs0 (UInt8.toNat_inj.1 e)) (bs s)
  have hJ := rest_join (bs s) sep hs0 _ rfl
  have hO3 : RowT w1.heap.size v2 (Ln.fieldsL sep.toNat (bs s)) w2 := hO2
  clear hO2
  generalize Ln.fieldsL sep.toNat (bs s) = F at *
  obtain ⟨a, c, rfl, hTx⟩ := tx_row hO3
  obtain ⟨b, off, rfl, hlt, hcs⟩ : ∃ b off, a = some ⟨b, off, none⟩ ∧ b < w2.heap.size ∧ ∀ i (hi : i < F.length), w2.cell? ⟨b, off + i, none⟩ = some (.string (bt F[i])) := by
    rcases hTx.cells with h | ⟨b, off, e, hlt, hc⟩
    · omega
    · refine ⟨b, off, e, hlt, fun i hi => (hc i hi).trans ?_⟩
      simp [List.getD, List.getElem?_map, List.getElem?_eq_getElem hi]
  replace hcs := hide hcs
  clear hO3 hTx
  by_cases hbig : 1000 < F.length
  · have hbig' : (1000 : Int) < (F.length : Int) := by omega
    clear hJ hcs
    go_wp2_with fail
    go_ret
    exact ⟨rfl, unhide B2⟩
  have hbig' : (F.length : Int) ≤ 1000 := by omega
  obtain ⟨k, hk⟩ : ∃ k : Nat, k = at_ % F.length := ⟨_, rfl⟩
  have hkl : k < F.length := by rw [hk]; exact Nat.mod_lt _ hpos
  have hki : (at_ : Int) % (F.length : Int) = (k : Int) := by rw [hk]; exact (Int.natCast_emod _ _).symm
  have hkz : (0 : Int) ≤ (k : Int) := by omega
  have hkh : (k : Int) < (F.length : Int) := by omega
  replace hJ := hide (hJ k hkl)
  have htl : ∀ (i : Nat) (hi : i < F.length), (F[i]).length ≤ 5000 := fun i hi => by have := mem_tot F _ (List.getElem_mem hi); have := hfl.2; rw [bs_len] at this; omega
  have hKl := htl k hkl
  replace htl := hide htl
  have hck := unhide hcs k hkl
  obtain ⟨K, hK⟩ : ∃ K, K = F[k] := ⟨_, rfl⟩
  rw [← hK] at hck hJ hKl
  replace hK := hide hK
  clear hk
  go_wp2_with fail
  simp only [hki]
  clear hki
  go_wp2_with fail
  have HB := hide B2
  go_loopw [9, 10] (fun s9 s10 wy => ∃ i : Nat, i ≤ F.length ∧ s10 = .int .i64 i ∧ s9 = .string (bt (K ++ led [sep] (butN k i F))) ∧ Hid ((K ++ led [sep] (butN k i F)).length ≤ 6000 * (i + 1)) ∧ Hid (Below w2.heap.size w2 wy)) (fun _ s10 _ => F.length - (intOf s10).toNat)
  case atStart => exact ⟨0, Nat.zero_le _, rfl, by rw [but_zero]; simp [led], by rw [but_zero]; simp [led, Hid]; omega, Below.refl _ _⟩
  case round =>
    obtain ⟨i, hi, rfl, rfl, hle, hBi⟩ := hrel
    by_cases hil : i < F.length
    · have hil' : (i : Int) < (F.length : Int) := by omega
      have hiz : (0 : Int) ≤ (i : Int) := by omega
      by_cases hik : i = k
      · subst hik
        have hst : Hid (butN i (i + 1) F = butN i i F) := but_at i F hil
        generalize hWn : bt (K ++ led [sep] (butN i i F)) = Wn at *
        go_wp2_with fail
        go_roundw
        case rel => exact ⟨i + 1, by omega, by go_num, by rw [unhide hst, hWn], by have := unhide hle; rw [unhide hst]; show _ ≤ _; omega, hBi⟩
        case measure => simp [intOf]; omega
      · have hik' : ¬ (i : Int) = (k : Int) := by omega
        have hst : Hid (K ++ led [sep] (butN k (i + 1) F) = K ++ led [sep] (butN k i F) ++ [sep] ++ F[i]) := by show _ = _; rw [led_else sep k i F hil hik]; simp [List.append_assoc]
        have hci := ((unhide hBi).cell hlt).trans (unhide hcs i hil)
        have hcv : (convert 28 9 (.slice (some ⟨wr.heap.size, 0, none⟩) 1 1)).run Tryd.prog (wr.alloc (.cells #[.int .u8 (sep.toNat : Int)] 5)).drew = .ok (.string (bt [sep])) (wr.alloc (.cells #[.int .u8 (sep.toNat : Int)] 5)).drew := conv_one sep wr.drew
        obtain ⟨x, hx⟩ : ∃ x, x = F[i] := ⟨_, rfl⟩
        have hxl := unhide htl i hil
        rw [← hx] at hci hst hxl
        obtain ⟨y, hy⟩ : ∃ y, y = K ++ led [sep] (butN k i F) := ⟨_, rfl⟩
        rw [← hy] at hle hst ⊢
        have hyl := unhide hle
        have hl1 : ¬ 9223372036854775807 < y.length + 1 := by omega
        have hl2 : ¬ 9223372036854775807 < y.length + 1 + x.length := by omega
        clear hx
        have hci2 : (wr.alloc (.cells #[.int .u8 (sep.toNat : Int)] 5)).cell? ⟨b, off + i, none⟩ = some (.string (bt x)) := (((Below.refl _ wr).alloc (Nat.le_refl _) (.cells #[.int .u8 (sep.toNat : Int)] 5)).cell (Nat.lt_of_lt_of_le hlt (unhide hBi).size)).trans hci
        have hB2 : Hid (Below w2.heap.size w2 (wr.alloc (.cells #[.int .u8 (sep.toNat : Int)] 5))) := (unhide hBi).alloc (unhide hBi).size _
        replace hy := hide hy
        go_wp2_with fail
        go_region
        go_wp2_with fail
        go_roundw
        case rel => exact ⟨i + 1, by omega, by go_num, by rw [unhide hst, ← bt_app, ← bt_app], by rw [unhide hst]; show _ ≤ _; simp; omega, (unhide hB2).drew⟩
        case measure => simp [intOf]; omega
    · have hiF : i = F.length := by omega
      subst hiF
      rw [but_all] at hle ⊢
      have hnl : ¬ (F.length : Int) < (F.length : Int) := by omega
      have hB3 : Hid (Below w.heap.size w wr) := (unhide B2).trans ((unhide hBi).mono (unhide B2).size)
      have hck2 := ((unhide hBi).cell hlt).trans hck
      have hlt2 : b < wr.heap.size := Nat.lt_of_lt_of_le hlt (unhide hBi).size
      generalize K ++ led [sep] (F.eraseIdx k) = Y at *
      clear hle hcs hK hpos hfl
      go_wp2_with fail
      have tA := (Pa.tx_lit wr [s] 9).below ((Below.refl _ _).alloc (Nat.le_refl _) (.cells #[.string (bt K)] 9))
      have tB := Pa.tx_lit (wr.alloc (.cells #[.string s] 9)) [bt K] 9
      rw [World.size_alloc] at tB
      have hA1 : ∀ q ∈ [s], q.size ≤ 1048577 := by
        intro q hq
        obtain rfl : q = s := by simpa using hq
        omega
      have hB1 : ∀ q ∈ [bt K], q.size ≤ 1048577 := by
        intro q hq
        obtain rfl : q = bt K := by simpa using hq
        rw [bt_len]; omega
      have J1 := join_any _ _ 1 1 1 1 1 1 [s] [bt K] (k + 1) 1 sep _ tA tB (by decide) (by decide) hA1 hB1 (by omega) (by omega) (by decide) (by decide) hs10
      rw [show joinP (k + 1) 1 sep (txs [s]) (txs [bt K]) = ([Y], 0) from unhide hJ, show ((k + 1 : Nat) : Int) = (k : Int) + 1 by omega] at J1
      clear tA tB hA1 hB1
      refine J1.mono ?_
      clear J1
      rintro e w4 ⟨v4, rfl, hO4, b4⟩
      have hw4 : Below wr.heap.size wr w4 := (((Below.refl _ wr).alloc (Nat.le_refl _) _).alloc (by simp) _).trans (b4.mono (by simp; omega))
      have B4 : Hid (Below w.heap.size w w4) := (unhide hB3).trans (hw4.mono (unhide hB3).size)
      obtain ⟨a4, c4, rfl, hT4⟩ := tx_row hO4
      obtain ⟨b5, o5, rfl, hc5⟩ : ∃ b5 o5, a4 = some ⟨b5, o5, none⟩ ∧ w4.cell? ⟨b5, o5, none⟩ = some (.string (bt Y)) := by
        rcases hT4.cells with h | ⟨b5, o5, e, _, hc⟩
        · simp at h
        · exact ⟨b5, o5, e, hc 0 (by simp)⟩
      clear hO4 hT4 b4 hB3 hw4 hck2 hck B2 hBi hJ
      have hyy : ((bt Y).toList == (bt Y).toList) = true := beq_self_eq_true _
      go_wp2_with fail
      go_ret
      exact ⟨rfl, unhide B4⟩
end Go.Proofs.YtoignkaldlohmabDoor.Vw
