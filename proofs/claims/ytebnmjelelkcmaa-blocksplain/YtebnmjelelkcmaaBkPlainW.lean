/- BlocksPlain, walked. -/
import Derived.Test.YtebnmjelelkcmaaBkIs
set_option linter.unusedVariables false
namespace Go.Proofs.Ytebnmjelelkcmaa.Bk
open Go.RowKit Go.Shelf Cu

theorem went_id (p : Pl) (l : List Bs) (h1 : p.sy = false) (h2 : p.sw = false) (h3 : p.up = false) (h4 : p.lo = false) : went p l = l.flatten := by
  have : bec p = id := by
    funext b
    simp [bec, b1P, b2P, b3P, b4P, h1, h2, h3, h4]
  unfold went
  rw [this, List.map_id]
theorem plain_ans (x y : Nat) (hx : x < 65536) (hy : y < 65536) (kp : Bool) (s t : Bs) (hs : s.length ≤ 100000) (ht : t.length ≤ 100000) :
    ∃ a b c d, runP ⟨(x : Int) + 1, (y : Int) + 1, 0, -1, 0, kp, false, false, false, false⟩ s t = ⟨s ++ (if kp = true then t.drop s.length else []), a, b, c, d, 0⟩ := by
  have hok : okP ⟨(x : Int) + 1, (y : Int) + 1, 0, -1, 0, kp, false, false, false, false⟩ = true := (okP_iff _).2 ⟨⟨by dsimp only; omega, by dsimp only; omega⟩, ⟨by dsimp only; omega, by dsimp only; omega⟩, ⟨by simp, by simp⟩, ⟨by simp, by simp⟩, .inl rfl⟩
  have hg : went ⟨(x : Int) + 1, (y : Int) + 1, 0, -1, 0, kp, false, false, false, false⟩ (tkn ⟨(x : Int) + 1, (y : Int) + 1, 0, -1, 0, kp, false, false, false, false⟩ s) = s := by
    rw [went_id _ _ rfl rfl rfl rfl]
    unfold tkn
    rw [takeC_neg, Int.zero_mul]
    exact ch_flat _ (by dsimp only; omega) _ s (Nat.le_refl _)
  rw [runP_ok _ _ _ hok (by omega) (by omega) (by rw [hg, Int.zero_mul]; simp; omega), put_zero _ _ _ rfl, hg]
  exact ⟨_, _, _, _, rfl⟩
set_option maxRecDepth 100000 in
set_option maxHeartbeats 1000000 in
theorem plain_walk (s t : ByteArray) (x y : Nat) (hx : x < 65536) (hy : y < 65536) (w : World) (hs : s.size ≤ 9223372036854775807) (ht : t.size ≤ 9223372036854775807) :
    Calls Try.prog 5 #[.string s, .string t, .agg #[.int .u16 (x : Int), .int .u16 (y : Int)]] w fun e w' => e = .returned (.bool true) ∧ Below w.heap.size w w' := by
  have A := hide alive_any
  by_cases hl : 100000 < s.size ∨ 100000 < t.size
  · by_cases h1 : 100000 < s.size
    · have h1' : (100000 : Int) < (s.size : Int) := by omega
      clear hl h1
      go_enter Try.func5, Try.ntmps5
      go_wp2_with fail
      refine (unhide A _).mono ?_
      rintro e w1 ⟨rfl, hb1⟩
      have HB1 : Hid (Below w.heap.size w w1) := ((Below.refl _ _).alloc (Nat.le_refl _) _).trans (hb1.mono (by simp))
      clear hb1
      go_wp2_with fail
      refine (unhide A _).mono ?_
      rintro e w2 ⟨rfl, hb2⟩
      have HB2 : Hid (Below w.heap.size w w2) := (unhide HB1).trans (hb2.mono (unhide HB1).size)
      clear hb2 A
      go_wp2_with fail
      go_ret
      exact ⟨rfl, unhide HB2⟩
    · have h1' : ¬ (100000 : Int) < (s.size : Int) := by omega
      have h2' : (100000 : Int) < (t.size : Int) := by omega
      clear hl h1
      go_enter Try.func5, Try.ntmps5
      go_wp2_with fail
      refine (unhide A _).mono ?_
      rintro e w1 ⟨rfl, hb1⟩
      have HB1 : Hid (Below w.heap.size w w1) := ((Below.refl _ _).alloc (Nat.le_refl _) _).trans (hb1.mono (by simp))
      clear hb1
      go_wp2_with fail
      refine (unhide A _).mono ?_
      rintro e w2 ⟨rfl, hb2⟩
      have HB2 : Hid (Below w.heap.size w w2) := (unhide HB1).trans (hb2.mono (unhide HB1).size)
      clear hb2 A
      go_wp2_with fail
      go_ret
      exact ⟨rfl, unhide HB2⟩
  · have h1' : ¬ (100000 : Int) < (s.size : Int) := by omega
    have h2' : ¬ (100000 : Int) < (t.size : Int) := by omega
    obtain ⟨a0, a1, a2, a3, hr1⟩ := plain_ans x y hx hy false (bs s) (bs t) (by rw [bs_len]; omega) (by rw [bs_len]; omega)
    obtain ⟨b0, b1, b2, b3, hr2⟩ := plain_ans x y hx hy true (bs s) (bs t) (by rw [bs_len]; omega) (by rw [bs_len]; omega)
    rw [if_neg (by simp), List.append_nil] at hr1
    rw [if_pos rfl, bs_len] at hr2
    have R1 := hide (run_is _ s t s hr1)
    obtain ⟨Y, hY⟩ : ∃ Y : ByteArray, bs Y = bs s ++ (bs t).drop s.size := ⟨⟨(bs s ++ (bs t).drop s.size).toArray⟩, rfl⟩
    rw [← hY] at hr2
    have R2 := hide (run_is _ s t Y hr2)
    have hYc : (s.size < t.size ∧ Y = s ++ t.extract s.size t.size) ∨ (¬ s.size < t.size ∧ Y = s) := by
      by_cases h : s.size < t.size
      · exact .inl ⟨h, ba_ext (by rw [hY, bs_app, bs_from])⟩
      · exact .inr ⟨h, ba_ext (by rw [hY, bs_end t s.size (by omega), List.append_nil])⟩
    unfold plC at R1 R2
    clear hl hr1 hr2 hY
    rcases hYc with ⟨hlt, rfl⟩ | ⟨hlt, rfl⟩
    · have hlt' : (s.size : Int) < (t.size : Int) := by omega
      have hsz : ¬ 9223372036854775807 < s.size + (t.extract s.size t.size).size := by rw [size_from]; omega
      go_enter Try.func5, Try.ntmps5
      go_wp2_with fail
      refine (unhide A _).mono ?_
      rintro e w1 ⟨rfl, hb1⟩
      have hz1 : w.heap.size < w1.heap.size := by have := hb1.size; simp at this; omega
      have c0 : w1.cell? ⟨w.heap.size, 0, none⟩ = some (.int .u16 (x : Int)) := (hb1.cell (p := ⟨w.heap.size, 0, none⟩) (by simp)).trans (by simp)
      have c1 : w1.cell? ⟨w.heap.size, 1, none⟩ = some (.int .u16 (y : Int)) := (hb1.cell (p := ⟨w.heap.size, 1, none⟩) (by simp)).trans (by simp)
      have HB1 : Hid (Below w.heap.size w w1) := ((Below.refl _ _).alloc (Nat.le_refl _) _).trans (hb1.mono (by simp))
      clear hb1 A
      go_wp2_with fail
      refine (unhide R1 _).mono ?_
      rintro e w2 ⟨rfl, hb2⟩
      have hp2 : w2.heap[w1.heap.size]? = some (PlO ⟨(x : Int) + 1, (y : Int) + 1, 0, -1, 0, false, false, false, false, false⟩) := pl_keep (heap_alloc_new w1 _) hb2
      have hz2 : w1.heap.size < w2.heap.size := heap_lt hp2
      have HB2 : Hid (Below w.heap.size w w2) := ((unhide HB1).alloc (unhide HB1).size _).trans (hb2.mono (by have := (unhide HB1).size; simp; omega))
      have HP2 := hide hp2
      have hf2 : w2.frozen? ⟨w1.heap.size, 5, none⟩ = false := Lib.frozen_of_heap hp2 5
      obtain ⟨d0, d1, d2, d3, d4, d5, d6, d7, d8, d9⟩ := pl_cells hp2
      have HB3 : Hid (Below w.heap.size w (w2.setCell ⟨w1.heap.size, 5, none⟩ (.bool true))) := (unhide HB2).setCell (p := ⟨w1.heap.size, 5, none⟩) (unhide HB1).size _
      clear hb2 hp2 c0 c1 HB2
      go_wp2_with fail
      refine (unhide R2 _).mono ?_
      rintro e w3 ⟨rfl, hb3⟩
      have HB4 : Hid (Below w.heap.size w w3) := ((unhide HB3).alloc (unhide HB3).size _).trans (hb3.mono (Nat.le_trans (unhide HB3).size (by simp)))
      clear hb3 HB3 d0 d1 d2 d3 d4 d5 d6 d7 d8 d9 hf2 HP2 HB1 R1 R2
      have HB5 := hide ((unhide HB4).alloc (unhide HB4).size (.cells #[.int .i64 (b0 : Int), .int .i64 (b1 : Int), .int .i64 (b2 : Int), .int .i64 (b3 : Int)] 26))
      go_wp2_with fail
      go_ret
      exact ⟨rfl, unhide HB5⟩
    · have hlt' : ¬ (Y.size : Int) < (t.size : Int) := by omega
      go_enter Try.func5, Try.ntmps5
      go_wp2_with fail
      refine (unhide A _).mono ?_
      rintro e w1 ⟨rfl, hb1⟩
      have hz1 : w.heap.size < w1.heap.size := by have := hb1.size; simp at this; omega
      have c0 : w1.cell? ⟨w.heap.size, 0, none⟩ = some (.int .u16 (x : Int)) := (hb1.cell (p := ⟨w.heap.size, 0, none⟩) (by simp)).trans (by simp)
      have c1 : w1.cell? ⟨w.heap.size, 1, none⟩ = some (.int .u16 (y : Int)) := (hb1.cell (p := ⟨w.heap.size, 1, none⟩) (by simp)).trans (by simp)
      have HB1 : Hid (Below w.heap.size w w1) := ((Below.refl _ _).alloc (Nat.le_refl _) _).trans (hb1.mono (by simp))
      clear hb1 A
      go_wp2_with fail
      refine (unhide R1 _).mono ?_
      rintro e w2 ⟨rfl, hb2⟩
      have hp2 : w2.heap[w1.heap.size]? = some (PlO ⟨(x : Int) + 1, (y : Int) + 1, 0, -1, 0, false, false, false, false, false⟩) := pl_keep (heap_alloc_new w1 _) hb2
      have hz2 : w1.heap.size < w2.heap.size := heap_lt hp2
      have HB2 : Hid (Below w.heap.size w w2) := ((unhide HB1).alloc (unhide HB1).size _).trans (hb2.mono (by have := (unhide HB1).size; simp; omega))
      have HP2 := hide hp2
      have hf2 : w2.frozen? ⟨w1.heap.size, 5, none⟩ = false := Lib.frozen_of_heap hp2 5
      obtain ⟨d0, d1, d2, d3, d4, d5, d6, d7, d8, d9⟩ := pl_cells hp2
      have HB3 : Hid (Below w.heap.size w (w2.setCell ⟨w1.heap.size, 5, none⟩ (.bool true))) := (unhide HB2).setCell (p := ⟨w1.heap.size, 5, none⟩) (unhide HB1).size _
      clear hb2 hp2 c0 c1 HB2
      go_wp2_with fail
      refine (unhide R2 _).mono ?_
      rintro e w3 ⟨rfl, hb3⟩
      have HB4 : Hid (Below w.heap.size w w3) := ((unhide HB3).alloc (unhide HB3).size _).trans (hb3.mono (Nat.le_trans (unhide HB3).size (by simp)))
      clear hb3 HB3 d0 d1 d2 d3 d4 d5 d6 d7 d8 d9 hf2 HP2 HB1 R1 R2
      have HB5 := hide ((unhide HB4).alloc (unhide HB4).size (.cells #[.int .i64 (b0 : Int), .int .i64 (b1 : Int), .int .i64 (b2 : Int), .int .i64 (b3 : Int)] 26))
      go_wp2_with fail
      go_ret
      exact ⟨rfl, unhide HB5⟩
end Go.Proofs.Ytebnmjelelkcmaa.Bk
