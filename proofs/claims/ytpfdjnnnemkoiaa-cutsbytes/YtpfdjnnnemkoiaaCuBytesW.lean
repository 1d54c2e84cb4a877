/- The walk of CutsBytes. -/
import Derived.Test.YtpfdjnnnemkoiaaCuRefB
namespace Go.Proofs.Ytpfdjnnnemkoiaa.Cu
open Go.RowKit Go.Shelf
open Ls (R Rg has)

set_option maxHeartbeats 1000000 in
set_option maxRecDepth 100000 in
theorem cbytes_walk (s : ByteArray) (a : Option Addr) (n cap : Nat) (rs : List R) (w : World) (h : Rg w a n cap rs) (hs : s.size ≤ 4611686018427387904) (hn : n ≤ 4611686018427387904) :
    Calls Try.prog 3 #[.string s, .slice a n cap] w fun e w' => e = .returned (.bool true) ∧ Below w.heap.size w w' := by
  have HR := hide h
  have HG := hide (great_any s a n cap w hs hn)
  clear h
  go_enter Try.func3, Try.ntmps3
  go_wp2_with fail
  refine (unhide HG).mono ?_
  rintro e w1 ⟨rfl, (rfl | ⟨rfl, hf1, hf2⟩)⟩
  · go_wp2_with fail
    go_ret
    exact ⟨rfl, Below.refl _ _⟩
  · clear HG
    have HT := hide (Ls.twin_any a n cap cap rs w1 (unhide HR) (by omega))
    go_wp2_with fail
    refine (unhide HT).mono ?_
    rintro e w2 ⟨rfl, ht2, hB2, hg2⟩
    clear HT
    have hrl : rs.length = n := (unhide HR).len
    have hrg : Rg w2 (some ⟨w1.heap.size, 0, none⟩) n (n + 1) rs := by have := ht2.rg hg2; rwa [hrl] at this
    have H3 := hide (bytes_any s (some ⟨w1.heap.size, 0, none⟩) n (n + 1) (n + 1) rs w2 hrg hn (by omega))
    have HT2 := hide ht2
    clear ht2 hrg
    go_wp2_with fail
    refine (unhide H3).mono ?_
    rintro e w3 ⟨rfl, hB3⟩
    clear H3
    have hB13 : Below w1.heap.size w1 w3 := hB2.trans (hB3.mono hB2.size)
    have H4 := hide (rbytes_any s a n cap cap rs w3 ((unhide HR).below hB13) hn (by omega))
    go_wp2_with fail
    refine (unhide H4).mono ?_
    rintro e w4 ⟨rfl, hB4⟩
    clear H4
    have hB14 : Below w1.heap.size w1 w4 := hB13.trans (hB4.mono hB13.size)
    have hB24 : Below w2.heap.size w2 w4 := hB3.trans (hB4.mono hB3.size)
    have ht4 := (unhide HT2).below hg2 hB24
    have H5 := hide (Ls.left_any w1.heap.size a n cap cap rs w4 ((unhide HR).below hB14) (by omega) ht4 (Nat.lt_of_lt_of_le hg2 hB24.size))
    clear ht4
    go_wp2_with fail
    refine (unhide H5).mono ?_
    rintro e w5 ⟨rfl, hB5⟩
    clear H5
    have hB15 : Below w1.heap.size w1 w5 := hB14.trans (hB5.mono hB14.size)
    go_wp2_with fail
    go_ret
    exact ⟨rfl, hB15⟩
end Go.Proofs.Ytpfdjnnnemkoiaa.Cu
