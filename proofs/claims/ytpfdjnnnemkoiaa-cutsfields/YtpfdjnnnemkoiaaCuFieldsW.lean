/- The walk of CutsFields. -/
import Derived.Test.YtpfdjnnnemkoiaaCuRefF
namespace Go.Proofs.Ytpfdjnnnemkoiaa.Cu
open Go.RowKit Go.Shelf
open Ls (R Rg has)

theorem faAns_tuple (s : ByteArray) (rs : List R) (sep : UInt8) (bare : Bool) : ∃ (t : ByteArray) (b : Bool), faAns s rs sep bare = .tuple #[.string t, .bool b] := by
  unfold faAns noText
  split
  · exact ⟨_, _, rfl⟩
  · split <;> exact ⟨_, _, rfl⟩

set_option maxHeartbeats 1000000 in
set_option maxRecDepth 100000 in
theorem cfields_walk (s : ByteArray) (sep : UInt8) (bare : Bool) (a : Option Addr) (n cap : Nat) (rs : List R) (w : World) (h : Rg w a n cap rs) (hs : s.size ≤ 4611686018427387904) (hn : n ≤ 4611686018427387904) :
    Calls Try.prog 4 #[.agg #[.string s, .int .u8 sep.toNat, .bool bare], .slice a n cap] w fun e w' => e = .returned (.bool true) ∧ Below w.heap.size w w' := by
  have HR := hide h
  clear h
  obtain ⟨t, b, htb⟩ := faAns_tuple s rs sep bare
  have HTB := hide htb
  clear htb
  go_enter Try.func4, Try.ntmps4
  go_wp2_with fail
  refine (great_any s a n cap _ hs hn).mono ?_
  rintro e w1 ⟨hw1, hor⟩
  have hB1 : Below w.heap.size w w1 := by rw [hw1]; repeat (first | exact Below.refl _ _ | apply Below.alloc | simp)
  have hX : Hid (∀ W, Below w1.heap.size w1 W → W.cell? ⟨w.heap.size, 0, none⟩ = some (.string s) ∧ W.cell? ⟨w.heap.size, 1, none⟩ = some (.int .u8 sep.toNat) ∧ W.cell? ⟨w.heap.size, 2, none⟩ = some (.bool bare)) := fun W hW => by
    have hlt : w.heap.size < w1.heap.size := by rw [hw1]; simp
    refine ⟨(hW.cell hlt).trans ?_, (hW.cell hlt).trans ?_, (hW.cell hlt).trans ?_⟩ <;> rw [hw1, cell_of_row _ _ _ _ _ _ (heap_alloc_new w _)] <;> rfl
  clear hw1
  rcases hor with rfl | ⟨rfl, hf1, hf2⟩
  · go_wp2_with fail
    go_ret
    exact ⟨rfl, hB1⟩
  · have HT := hide (Ls.twin_any a n cap cap rs w1 ((unhide HR).below hB1) (by omega))
    go_wp2_with fail
    refine (unhide HT).mono ?_
    rintro e w2 ⟨rfl, ht2, hB2, hg2⟩
    clear HT
    have hrl : rs.length = n := (unhide HR).len
    have hrg : Rg w2 (some ⟨w1.heap.size, 0, none⟩) n (n + 1) rs := by have := ht2.rg hg2; rwa [hrl] at this
    have HT2 := hide ht2
    have HRG := hide hrg
    clear ht2 hrg
    have H3 := hide (fields_any s (some ⟨w1.heap.size, 0, none⟩) n (n + 1) (n + 1) rs sep bare w2 (unhide HRG) hn (by omega))
    rw [unhide HTB] at H3
    obtain ⟨x1, x2, x3⟩ := unhide hX w2 hB2
    go_wp2_with fail
    refine (unhide H3).mono ?_
    rintro e w3 ⟨rfl, hB3⟩
    clear H3 x1 x2 x3
    have hB13 : Below w1.heap.size w1 w3 := hB2.trans (hB3.mono hB2.size)
    have hB03 : Below w.heap.size w w3 := hB1.trans (hB13.mono hB1.size)
    have H4 := hide (rfields_any s a n cap cap rs sep bare w3 ((unhide HR).below hB03) hn (by omega))
    rw [unhide HTB] at H4
    obtain ⟨x1, x2, x3⟩ := unhide hX w3 hB13
    go_wp2_with fail
    refine (unhide H4).mono ?_
    rintro e w4 ⟨rfl, hB4⟩
    clear H4 x1 x2 x3
    have hB14 : Below w1.heap.size w1 w4 := hB13.trans (hB4.mono hB13.size)
    have hB04 : Below w.heap.size w w4 := hB1.trans (hB14.mono hB1.size)
    have hB24 : Below w2.heap.size w2 w4 := hB3.trans (hB4.mono hB3.size)
    have ht4 := (unhide HT2).below hg2 hB24
    have H5 := hide (Ls.left_any w1.heap.size a n cap cap rs w4 ((unhide HR).below hB04) (by omega) ht4 (Nat.lt_of_lt_of_le hg2 hB24.size))
    clear ht4
    go_wp2_with fail
    refine (unhide H5).mono ?_
    rintro e w5 ⟨rfl, hB5⟩
    clear H5
    have hB05 : Below w.heap.size w w5 := hB04.trans (hB5.mono hB04.size)
    go_wp2_with fail
    go_ret
    exact ⟨rfl, hB05⟩
end Go.Proofs.Ytpfdjnnnemkoiaa.Cu
