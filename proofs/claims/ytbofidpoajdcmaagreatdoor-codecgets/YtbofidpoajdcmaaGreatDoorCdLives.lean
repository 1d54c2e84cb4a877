/- The chapter's examples. -/
import Derived.Test.YtbofidpoajdcmaaGreatDoorCdGet
import Derived.Test.YtbofidpoajdcmaaGreatDoorCdSum
namespace Go.Proofs.YtbofidpoajdcmaaGreatDoor.Cd
open Go.RowKit Cu Tr

def caTick : Ca := ⟨12, ⟨#[]⟩, ⟨#[]⟩, 0, 0, 0, 5, [], 0, 0, 0, 0⟩
theorem tick_may : mayPut caTick = true := by decide +kernel
theorem tick_len : (putP caTick).length = 77 := by decide +kernel
theorem tick_less : getP ((putP caTick).take 76) = none := by decide +kernel
theorem nil_none : getP [] = none := by decide +kernel
theorem tick_head : (putP caTick).getD 0 0 = 12 := by decide +kernel
def digits9 : Bs := [49, 50, 51, 52, 53, 54, 55, 56, 57]
theorem sum9 : sumP digits9 = 3421780262#32 := by decide +kernel
theorem sum0 : sumP [] = 0#32 := by decide +kernel
abbrev tickA : Array Value := #[.int .u8 12, .string ⟨#[]⟩, .string ⟨#[]⟩, .int .i64 0, .int .i64 0, .int .i64 0, .int .i64 5, .slice none 0 0, .int .i64 0, .int .i64 0, .int .i64 0, .int .i64 0]
theorem by_none (w : World) : By w none 0 0 [] := ⟨rfl, Nat.le_refl _, fun _ => ⟨rfl, rfl⟩, .inl rfl⟩
theorem put_tick (w : World) : Calls Tryz.prog 9 #[.agg tickA] w fun e w' => ∃ b off cap, e = .returned (.tuple #[.slice (some ⟨b, off, none⟩) 77 cap, .int .i64 0]) ∧ By w' (some ⟨b, off, none⟩) 77 cap (putP caTick) ∧ Below w.heap.size w w' := by
  have h : Calls Tryz.prog 9 #[cav caTick none 0] w (PutR caTick w) := put_any caTick none 0 w (by_none w) (by decide) (by decide)
  refine (show Calls Tryz.prog 9 #[.agg tickA] w (PutR caTick w) from h).mono ?_
  rintro e w' ⟨⟨v, he, hR⟩, hb⟩
  rw [if_pos tick_may] at he hR
  obtain ⟨a, c, rfl, hB, _⟩ := row_by hR
  rw [tick_len] at hB he
  rcases hB.cells with h0 | ⟨b, off, rfl, _, _⟩
  · omega
  · exact ⟨b, off, c, he, hB, hb⟩
theorem get_none {l : Bs} (h : getP l = none) (a : Option Addr) (n cap : Nat) (w : World) (hB : By w a n cap l) (hn : n ≤ 4611686018427387904) : Calls Tryz.prog 17 #[.slice a n cap] w fun e w' => e = .returned (.tuple #[.agg zA, .int .i64 0, .int .i64 5]) ∧ Below w.heap.size w w' := by
  refine (get_any a n cap l w hB hn).mono ?_
  rintro e w' ⟨hb, he⟩
  rw [h] at he
  exact ⟨he, hb⟩
abbrev nineA : Array Value := #[.int .u8 49, .int .u8 50, .int .u8 51, .int .u8 52, .int .u8 53, .int .u8 54, .int .u8 55, .int .u8 56, .int .u8 57]
theorem sum_nine (w : World) : Calls Tryz.prog 31 #[.slice (some ⟨w.heap.size, 0, none⟩) 9 9] (w.alloc (.cells nineA 5 (9, 10))) fun e w' => e = .returned (.int .u32 3421780262) ∧ Below (w.alloc (.cells nineA 5 (9, 10))).heap.size (w.alloc (.cells nineA 5 (9, 10))) w' := by
  have hB : By (w.alloc (.cells nineA 5 (9, 10))) (some ⟨w.heap.size, 0, none⟩) 9 9 digits9 := by
    refine ⟨rfl, Nat.le_refl _, (by intro h; cases h), .inr ⟨_, 0, rfl, by simp, ?_⟩⟩
    intro i hi
    rw [Nat.zero_add, Lib.cell_of_heap (heap_alloc_new w _)]
    match i, hi with
    | 0, _ => rfl
    | 1, _ => rfl
    | 2, _ => rfl
    | 3, _ => rfl
    | 4, _ => rfl
    | 5, _ => rfl
    | 6, _ => rfl
    | 7, _ => rfl
    | 8, _ => rfl
  refine (sum_any _ 9 9 digits9 _ hB (by omega)).mono ?_
  rintro e w' ⟨rfl, hb⟩
  refine ⟨?_, hb⟩
  rw [sum9]
  rfl
set_option maxHeartbeats 2000000 in
set_option maxRecDepth 100000 in
theorem lives_any (w : World) : Calls Tryz.prog 7 #[] w fun e w' => e = .returned (.bool true) ∧ Below w.heap.size w w' := by
  have HP := hide (put_tick w)
  go_enter Tryz.func7, Tryz.ntmps7
  go_wp2_with fail
  refine (unhide HP).mono ?_
  rintro e w1 ⟨b, off, cap, rfl, hB, hb⟩
  have B1 := hide hB
  have b1 := hide hb
  have HG := hide (get_none nil_none none 0 0 w1 (by_none w1) (by omega))
  clear HP hB hb
  go_wp2_with fail
  refine (unhide HG).mono ?_
  rintro e w2 ⟨rfl, hb⟩
  have B2 := hide ((unhide B1).below hb)
  have b2 := hide ((unhide b1).trans (hb.mono (unhide b1).size))
  clear HG hb B1 b1
  have hcap : 77 ≤ cap := (unhide B2).le
  have B3 := hide ((unhide B2).below (below_new w2 (.cells zA 27)))
  have b3 := hide ((unhide b2).trans ((below_new w2 (.cells zA 27)).mono (unhide b2).size))
  have HG := hide (get_none tick_less (some ⟨b, off, none⟩) 76 cap _ (by_take (unhide B3) 76 (by omega)) (by omega))
  clear B2 b2
  go_wp2_with fail
  refine (unhide HG).mono ?_
  rintro e w4 ⟨rfl, hb⟩
  have B4 := hide ((unhide B3).below hb)
  have b4 := hide ((unhide b3).trans (hb.mono (unhide b3).size))
  clear HG hb B3 b3
  obtain ⟨hlt, hc⟩ : b < w4.heap.size ∧ w4.cell? ⟨b, off, none⟩ = some (.int .u8 12) := by
    rcases (unhide B4).cells with h0 | ⟨b', off', e, h1, h2⟩
    · omega
    · injection e with e
      injection e with e1 e2 _
      subst e1 e2
      refine ⟨h1, ?_⟩
      have := h2 0 (by omega)
      rw [tick_head] at this
      exact this
  have kc : (convert 23 23 (.slice (some ⟨w4.heap.size + 1, 0, none⟩) 9 9)).run Tryz.prog ((w4.alloc (.cells zA 27)).alloc (.cells nineA 5)) = .ok (.slice (some ⟨w4.heap.size + 1, 0, none⟩) 9 9) ((w4.alloc (.cells zA 27)).alloc (.cells nineA 5 (9, 10))) := by
    have := Lib.run_convert_bytes_const (P := Tryz.prog) (w4.alloc (.cells zA 27)) 23 5 nineA 9 9 Tryz.underlying23 Tryz.underlying5
    rw [World.size_alloc] at this
    exact this
  have HS := hide (sum_nine (w4.alloc (.cells zA 27)))
  rw [World.size_alloc] at HS
  have b5 := hide ((unhide b4).trans (((below_new w4 (.cells zA 27)).trans ((below_new (w4.alloc (.cells zA 27)) (.cells nineA 5 (9, 10))).mono (by simp))).mono (unhide b4).size))
  clear b4 B4
  go_wp2_with fail
  refine (unhide HS).mono ?_
  rintro e w6 ⟨rfl, hb⟩
  have b6 := hide ((unhide b5).trans (hb.mono (unhide b5).size))
  have HS0 := hide (sum_any none 0 0 [] w6 (by_none w6) (by omega))
  rw [sum0] at HS0
  clear HS hb b5 kc
  go_wp2_with fail
  refine (unhide HS0).mono ?_
  rintro e w7 ⟨rfl, hb⟩
  have b7 := hide ((unhide b6).trans (hb.mono (unhide b6).size))
  clear HS0 hb b6
  go_wp2_with fail
  go_ret
  exact ⟨rfl, unhide b7⟩
end Go.Proofs.YtbofidpoajdcmaaGreatDoor.Cd
