/- The law CodecBack: walked. -/
import Derived.Test.YtbofidpoajdcmaaCdLives
import Derived.Test.YtbofidpoajdcmaaCdSame
import Derived.Test.YtbofidpoajdcmaaCdBackP
namespace Go.Proofs.Ytbofidpoajdcmaa.Cd
open Go.RowKit Cu Tr

theorem get_some {l r : Bs} {c : Ca} (h : getP l = some (c, r)) (a : Option Addr) (n cap : Nat) (w : World) (hB : By w a n cap l) (hn : n ≤ 4611686018427387904) :
    Calls Try.prog 12 #[.slice a n cap] w fun e w' => (∃ da dc, e = .returned (.tuple #[cav c da dc, .int .i64 ((n : Int) - (r.length : Int)), .int .i64 0]) ∧ By w' da c.data.length dc c.data) ∧ Below w.heap.size w w' := by
  refine (get_any a n cap l w hB hn).mono ?_
  rintro e w' ⟨hb, he⟩
  rw [h] at he
  obtain ⟨d, he, hR⟩ := he
  obtain ⟨da, dc, rfl, hD, _⟩ := row_by hR
  rw [hB.len] at he
  exact ⟨⟨da, dc, he, hD⟩, hb⟩
set_option maxHeartbeats 2000000 in
set_option maxRecDepth 100000 in
theorem back_walk (c : Ca) (ca0 : Option Addr) (cc : Nat) (a : Option Addr) (n cap : Nat) (l : Bs) (w : World) (hC : By w ca0 c.data.length cc c.data) (hW : Wf c) (h1 : c.path.size ≤ 281474976710656) (h2 : c.other.size ≤ 281474976710656) (h3 : c.data.length ≤ 281474976710656) (hB : By w a n cap l) (hn : n ≤ 9223372036854775807) :
    Calls Try.prog 4 #[cav c ca0 cc, .slice a n cap] w fun e w' => e = .returned (.bool true) ∧ Below w.heap.size w w' := by
  obtain ⟨i0, hi, hz0, hz1, hz2⟩ := info_parts Try.infoByte
  obtain ⟨O, hO⟩ : ∃ O : Obj, O = .cells (ca c (.slice ca0 c.data.length cc)) 33 (0, 0) := ⟨_, rfl⟩
  have hCb : Hid (Cb (w.alloc O) w.heap.size c (.slice ca0 c.data.length cc)) := by rw [hO]; exact heap_alloc_new w _
  have b0 := hide (below_new w O)
  have C0 := hide (hC.below (below_new w O))
  have B0 := hide (hB.below (below_new w O))
  have P := hide (put_any c ca0 cc (w.alloc O) (unhide C0) (by omega) (by omega))
  have HW := hide hW
  subst hO
  clear hC hB hW
  go_enter Try.func4, Try.ntmps4
  go_wp2_with fail
  refine (unhide P).mono ?_
  rintro e w1 ⟨⟨v, rfl, hR⟩, hb⟩
  have b1 := hide ((unhide b0).trans (hb.mono (by simp)))
  have C1 := hide ((unhide C0).below hb)
  have B1 := hide ((unhide B0).below hb)
  have D1 := hide ((hb.block _ (by simp)).trans (unhide hCb))
  have hRl := row_lo hR
  clear P hb C0 B0 b0 hCb
  by_cases hm : mayPut c = true
  · rw [if_pos hm] at hR ⊢
    obtain ⟨va, vc, rfl, hV, hVlo⟩ := row_by hR
    have HP := hide (fun r => getP_put c r hm (unhide HW))
    have HL := hide (fun i hi => getP_less c hm (unhide HW) i hi)
    have V1 := hide hV
    clear hR hRl hV hVlo
    generalize putP c = pc at *
    obtain ⟨m, hml⟩ : ∃ m, m = pc.length := ⟨_, rfl⟩
    rw [← hml] at V1 HL ⊢
    have HM := hide hml
    clear hml
    by_cases hb1 : m ≤ 3000
    · by_cases hb2 : n ≤ 3000
      · have hb1' : ¬ (3000 : Int) < (m : Int) := by omega
        have hb2' : ¬ (3000 : Int) < (n : Int) := by omega
        go_wp2_with (first | (at_builtin; refine wpList_append_ontoA rfl _ _ 22 rfl w1.heap.size 5 i0 _ 1 1 Try.underlying22 hi hz0 hz1 hz2 rfl (by decide) _ 0 [] rfl (row_nil w1 _) va m vc (Lib.byteCells pc) rfl (unhide V1).nil (by have := (unhide V1).len; simp [Lib.byteCells]; omega) (By.news (unhide V1)) (byteCells_one pc) (by unfold maxLen; omega) (by omega) (Nat.le_refl _) ?_))
        intro v2 w2 hO2 hG2 _
        have hR2 : Row w1.heap.size v2 pc w2 := by
          have e := unhide HM
          subst e
          simpa [Row] using hO2
        have hb12 : Below w1.heap.size w1 w2 := ⟨hG2.os, hG2.tape, hG2.output, hG2.size, fun k hk => hG2.block k hk (by simp [Value.ownBlock])⟩
        have B2 := hide ((unhide B1).below hb12)
        have C2 := hide ((unhide C1).below hb12)
        have V2 := hide ((unhide V1).below hb12)
        have b2 := hide ((unhide b1).trans (hb12.mono (unhide b1).size))
        have D2 := hide ((hb12.block _ (Array.getElem?_eq_some_iff.1 (unhide D1)).1).trans (unhide D1))
        obtain ⟨va2, vc2, rfl⟩ := row_slice hR2
        have HR2 := hide hR2
        have S2 := hide hb12.size
        have H12 := hide hb12
        clear hO2 hG2 hR2 hb12 C2 V2 b2 D2
        go_wp2_with (first | (at_builtin; refine wpList_append_ontoA rfl _ _ 22 rfl w1.heap.size 5 i0 _ 1 1 Try.underlying22 hi hz0 hz1 hz2 rfl (by decide) _ pc.length (Lib.byteCells pc) rfl (unhide HR2) a n cap (Lib.byteCells l) rfl (unhide B2).nil (by have := (unhide B2).len; simp [Lib.byteCells]; omega) (By.news (unhide B2)) (byteCells_one l) (by have := unhide HM; unfold maxLen; omega) (by have := unhide HM; omega) (unhide S2) ?_))
        intro v3 w3 hO3 hG3 _
        have hR3 : Row w1.heap.size v3 (pc ++ l) w3 := row_app (unhide B2).len hO3
        have hb13 : Below w1.heap.size w1 w3 := ⟨hG3.os.trans (unhide H12).os, hG3.tape.trans (unhide H12).tape, hG3.output.trans (unhide H12).output, Nat.le_trans (unhide H12).size hG3.size, fun k hk => (hG3.block k (Nat.lt_of_lt_of_le hk (unhide H12).size) (fun e => by have := row_lo (unhide HR2) k e.symm; omega)).trans ((unhide H12).block k hk)⟩
        have C3 := hide ((unhide C1).below hb13)
        have V3 := hide ((unhide V1).below hb13)
        have b3 := hide ((unhide b1).trans (hb13.mono (unhide b1).size))
        have D3 : Hid (Cb w3 w.heap.size c (.slice ca0 c.data.length cc)) := (hb13.block _ (Array.getElem?_eq_some_iff.1 (unhide D1)).1).trans (unhide D1)
        obtain ⟨va3, vc3, rfl, hY3, _⟩ := row_by hR3
        have e3 : (pc ++ l).length = m + n := by rw [List.length_append, ← unhide HM, (unhide B2).len]
        rw [e3] at hY3
        have G3 := get_some (unhide HP l) va3 (m + n) vc3 w3 hY3 (by omega)
        rw [show (((m + n : Nat) : Int) - (l.length : Int)) = (m : Int) by rw [(unhide B2).len]; omega] at G3
        have HG3 := hide G3
        rw [e3]
        clear hO3 hG3 hR3 hb13 B1 C1 V1 b1 D1 H12 HR2 B2 hY3 e3 G3 S2
        go_wp2_with fail
        refine (unhide HG3).mono ?_
        rintro e w4 ⟨⟨da, dc, rfl, hD4⟩, hb⟩
        have DD4 := hide hD4
        have C4 := hide ((unhide C3).below hb)
        have V4 := hide ((unhide V3).below hb)
        have b4 := hide ((unhide b3).trans (hb.mono (unhide b3).size))
        have D4 : Hid (Cb w4 w.heap.size c (.slice ca0 c.data.length cc)) := (hb.block _ (Array.getElem?_eq_some_iff.1 (unhide D3)).1).trans (unhide D3)
        have hl4 : w.heap.size < w4.heap.size := (Array.getElem?_eq_some_iff.1 (unhide D4)).1
        have k0 : w4.cell? ⟨w.heap.size, 0, none⟩ = some (.int .u8 (c.kind.toNat : Int)) := (unhide D4).at 0 _ rfl
        have k1 : w4.cell? ⟨w.heap.size, 1, none⟩ = some (.string c.path) := (unhide D4).at 1 _ rfl
        have k2 : w4.cell? ⟨w.heap.size, 2, none⟩ = some (.string c.other) := (unhide D4).at 2 _ rfl
        have k3 : w4.cell? ⟨w.heap.size, 3, none⟩ = some (.int .i64 c.mode) := (unhide D4).at 3 _ rfl
        have k4 : w4.cell? ⟨w.heap.size, 4, none⟩ = some (.int .i64 c.user) := (unhide D4).at 4 _ rfl
        have k5 : w4.cell? ⟨w.heap.size, 5, none⟩ = some (.int .i64 c.group) := (unhide D4).at 5 _ rfl
        have k6 : w4.cell? ⟨w.heap.size, 6, none⟩ = some (.int .i64 c.time) := (unhide D4).at 6 _ rfl
        have k7 : w4.cell? ⟨w.heap.size, 7, none⟩ = some (.slice ca0 c.data.length cc) := (unhide D4).at 7 _ rfl
        have k8 : w4.cell? ⟨w.heap.size, 8, none⟩ = some (.int .i64 c.eu) := (unhide D4).at 8 _ rfl
        have k9 : w4.cell? ⟨w.heap.size, 9, none⟩ = some (.int .i64 c.eg) := (unhide D4).at 9 _ rfl
        have k10 : w4.cell? ⟨w.heap.size, 10, none⟩ = some (.int .i64 c.em) := (unhide D4).at 10 _ rfl
        have k11 : w4.cell? ⟨w.heap.size, 11, none⟩ = some (.int .i64 c.ed) := (unhide D4).at 11 _ rfl
        have n5 := below_new w4 (.cells (ca c (.slice da c.data.length dc)) 33)
        have SC := hide (sameC_yes c da ca0 dc cc _ ((unhide DD4).below n5) ((unhide C4).below n5) (by omega))
        have V5 := hide ((unhide V4).below n5)
        have b5 := hide ((unhide b4).trans (n5.mono (unhide b4).size))
        clear HG3 hD4 hb C3 V3 b3 D3 n5 DD4 C4 V4 b4 D4
        go_wp2_with fail
        refine (unhide SC).mono ?_
        rintro e w6 ⟨rfl, hb⟩
        have V6 := hide ((unhide V5).below hb)
        have b6 := hide ((unhide b5).trans (hb.mono (unhide b5).size))
        have hvc := (unhide V6).le
        clear SC hb V5 b5 k0 k1 k2 k3 k4 k5 k6 k7 k8 k9 k10 k11 hl4
        go_wp2_with fail
        go_loopw [10] (fun v wr => ∃ i : Nat, i ≤ m ∧ v = .int .i64 i ∧ Hid (By wr va m vc pc) ∧ Hid (Below w.heap.size w wr)) (fun v _ => m - (intOf v).toNat)
        case atStart => exact ⟨0, Nat.zero_le _, rfl, V6, b6⟩
        case round =>
          clear V6 b6
          obtain ⟨i, hi, rfl, V, b⟩ := hrel
          by_cases hlt : i < m
          · have hlt' : (i : Int) < (m : Int) := by omega
            have hic : i ≤ vc := by omega
            have GN := hide (get_none (unhide HL i hlt) va i vc wr (by_take (unhide V) i hi) (by omega))
            go_wp2_with fail
            refine (unhide GN).mono ?_
            rintro e w8 ⟨rfl, hb⟩
            have n9 := below_new w8 (.cells zA 33)
            have V9 := hide (((unhide V).below hb).below n9)
            have b8 := (unhide b).trans (hb.mono (unhide b).size)
            have b9 := hide (b8.trans (n9.mono b8.size))
            clear GN hb n9 b8 V b
            go_wp2_with fail
            go_roundw
            case rel => exact ⟨i + 1, by omega, by go_num, V9, b9⟩
            case measure => simp [intOf]; omega
          · obtain rfl : i = m := by omega
            go_wp2_with fail
            refine (lives_any wr).mono ?_
            rintro e w8 ⟨rfl, hb⟩
            have b9 := hide ((unhide b).trans (hb.mono (unhide b).size))
            clear hb
            go_wp2_with fail
            go_ret
            exact ⟨rfl, unhide b9⟩
      · have hb1' : ¬ (3000 : Int) < (m : Int) := by omega
        have hb2' : (3000 : Int) < (n : Int) := by omega
        go_wp2_with fail
        refine (lives_any w1).mono ?_
        rintro e w8 ⟨rfl, hb⟩
        have b9 := hide ((unhide b1).trans (hb.mono (unhide b1).size))
        clear hb
        go_wp2_with fail
        go_ret
        exact ⟨rfl, unhide b9⟩
    · have hb1' : (3000 : Int) < (m : Int) := by omega
      go_wp2_with fail
      refine (lives_any w1).mono ?_
      rintro e w8 ⟨rfl, hb⟩
      have b9 := hide ((unhide b1).trans (hb.mono (unhide b1).size))
      clear hb
      go_wp2_with fail
      go_ret
      exact ⟨rfl, unhide b9⟩
  · rw [if_neg hm] at hR ⊢
    obtain ⟨va, vc, rfl⟩ := row_slice hR
    rw [List.length_nil]
    clear hR hRl
    go_wp2_with fail
    refine (lives_any w1).mono ?_
    rintro e w8 ⟨rfl, hb⟩
    have b9 := hide ((unhide b1).trans (hb.mono (unhide b1).size))
    clear hb
    go_wp2_with fail
    go_ret
    exact ⟨rfl, unhide b9⟩
end Go.Proofs.Ytbofidpoajdcmaa.Cd
