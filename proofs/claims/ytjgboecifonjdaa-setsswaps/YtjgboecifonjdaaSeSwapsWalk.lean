/- The law SetsSwaps: walked. -/
import Derived.Test.YtjgboecifonjdaaSeRefSwap
import Derived.Test.YtjgboecifonjdaaSeTwin
import Derived.Test.YtjgboecifonjdaaBeyond3
import Derived.Test.YtjgboecifonjdaaSeList
namespace Go.Proofs.Ytjgboecifonjdaa.Se
open Go.RowKit

theorem TwinB.by {w : World} {base g n : Nat} {l : Bs} (h : TwinB w base g n l) (hl : l.length = n) : By w (some ⟨g, 0, none⟩) n (n + 1) l := by
  obtain ⟨a, c, e, hy⟩ := by_row h.1
  simp at e
  obtain ⟨rfl, _, rfl⟩ := e
  rw [hl] at hy
  exact hy

set_option maxHeartbeats 1000000 in
set_option maxRecDepth 100000 in
theorem swaps_walk (s : ByteArray) (a1 a2 : Option Addr) (n c1 m c2 : Nat) (f t : Bs) (w : World) (h1 : By w a1 n c1 f) (h2 : By w a2 m c2 t) (hs : s.size ≤ reachBytes) (hn : n ≤ reachBytes) (hm : m ≤ reachBytes) :
    Calls Try.prog 3 #[.string s, .slice a1 n c1, .slice a2 m c2] w fun e w' => e = .returned (.bool true) ∧ Below w.heap.size w w' := by
  unfold reachBytes at hs hn hm
  have H1 := hide h1
  have H2 := hide h2
  clear h1 h2
  go_enter Try.func3, Try.ntmps3
  go_wp2_with fail
  refine (Beyond.beyond_three (s.size : Int) (n : Int) (m : Int) w.heap.size _ (by simp) (by simp) (by simp) (by omega) (by omega) (by omega) (by omega) (by omega) (by omega)).mono ?_
  rintro e w' ⟨rfl, rfl⟩
  have hb1 : Below w.heap.size w (w.alloc (.cells #[.int .i64 s.size, .int .i64 n, .int .i64 m] 3)) := (Below.refl _ _).alloc (Nat.le_refl _) _
  generalize (w.alloc (.cells #[.int .i64 s.size, .int .i64 n, .int .i64 m] 3)) = w1 at *
  have B1 := hide hb1
  have Y1 := hide ((unhide H1).below hb1)
  have Y2 := hide ((unhide H2).below hb1)
  clear hb1 H1 H2
  by_cases hb : 1048576 < (s.size : Int) + (n : Int) + (m : Int)
  · go_wp2_with fail
    go_ret
    exact ⟨rfl, unhide B1⟩
  · have C1 := hide (twin_any a1 n c1 c1 f w1 (unhide Y1) (by omega))
    go_wp2_with fail
    refine (unhide C1).mono ?_
    rintro e w2 ⟨rfl, hT, hb2⟩
    have B2 := hide ((unhide B1).trans (hb2.mono (unhide B1).size))
    have Y1' := hide ((unhide Y1).below hb2)
    have Y2' := hide ((unhide Y2).below hb2)
    have T1 := hide hT
    obtain ⟨g1, hg1⟩ : ∃ g, g = w1.heap.size := ⟨_, rfl⟩
    rw [← hg1] at T1 ⊢
    clear hT hb2 C1 B1 Y1 Y2 hg1
    have C2 := hide (twin_any a2 m c2 c2 t w2 (unhide Y2') (by omega))
    go_wp2_with fail
    refine (unhide C2).mono ?_
    rintro e w3 ⟨rfl, hT, hb3⟩
    have B3 := hide ((unhide B2).trans (hb3.mono (unhide B2).size))
    have Y1 := hide ((unhide Y1').below hb3)
    have Y2 := hide ((unhide Y2').below hb3)
    have T1' := hide ((unhide T1).below hb3)
    have T2 := hide hT
    obtain ⟨g2, hg2⟩ : ∃ g, g = w2.heap.size := ⟨_, rfl⟩
    rw [← hg2] at T2 ⊢
    clear hT hb3 C2 B2 Y1' Y2' T1 hg2
    obtain ⟨X, E, C3, C4⟩ : ∃ (X : ByteArray) (E : Int), Hid (∀ W, TwinB W g1 g1 n f → TwinB W g2 g2 m t → Calls Try.prog 9 #[.string s, .slice (some ⟨g1, 0, none⟩) n (n + 1), .slice (some ⟨g2, 0, none⟩) m (m + 1)] W fun e w' => e = .returned (.tuple #[.string X, .int .i64 E]) ∧ Below W.heap.size W w')
        ∧ Hid (∀ W, By W a1 n c1 f → By W a2 m c2 t → Calls Try.prog 10 #[.string s, .slice a1 n c1, .slice a2 m c2] W fun e w' => e = .returned (.tuple #[.string X, .int .i64 E]) ∧ Below W.heap.size W w') := by
      have hlf := (unhide Y1).len
      have hlt := (unhide Y2).len
      by_cases hz : 0 < n ∧ m = 0
      · obtain ⟨hn0, rfl⟩ := hz
        exact ⟨_, _, fun W _ _ => (swap_none s _ _ n (n + 1) (0 + 1) W hn0).mono fun e w' h => ⟨h.1, h.2 ▸ Below.refl _ _⟩, fun W _ _ => (refSwap_none s a1 a2 n c1 c2 W hn0).mono fun e w' h => ⟨h.1, h.2 ▸ Below.refl _ _⟩⟩
      · exact ⟨_, _, fun W k1 k2 => swap_any s _ _ n _ _ m _ _ f t W (k1.by hlf) (k2.by hlt) (by omega) (by omega) (by omega) (by omega), fun W k1 k2 => refSwap_any s a1 a2 n c1 c1 m c2 c2 f t W k1 k2 (by omega) (by omega) (by omega) (by omega)⟩
    have D3 := hide (unhide C3 w3 (unhide T1') (unhide T2))
    clear C3
    go_wp2_with fail
    refine (unhide D3).mono ?_
    rintro e w4 ⟨rfl, hb4⟩
    have B4 := hide ((unhide B3).trans (hb4.mono (unhide B3).size))
    have Z1 := hide ((unhide Y1).below hb4)
    have Z2 := hide ((unhide Y2).below hb4)
    have U1 := hide ((unhide T1').below hb4)
    have U2 := hide ((unhide T2).below hb4)
    have D4 := hide (unhide C4 w4 (unhide Z1) (unhide Z2))
    clear hb4 D3 C4 B3 Y1 Y2 T1' T2
    go_wp2_with fail
    refine (unhide D4).mono ?_
    rintro e w5 ⟨rfl, hb5⟩
    have B5 := hide ((unhide B4).trans (hb5.mono (unhide B4).size))
    have Y1 := hide ((unhide Z1).below hb5)
    have Y2 := hide ((unhide Z2).below hb5)
    have T1 := hide ((unhide U1).below hb5)
    have T2 := hide ((unhide U2).below hb5)
    have D5 := hide (left_any a1 g1 g1 n c1 c1 f w5 (unhide Y1) (unhide T1) (by omega))
    clear hb5 D4 B4 Z1 Z2 U1 U2
    have t1 : (X.toList == X.toList) = true := by simp
    have t2 : (E == E) = true := by simp
    go_wp2_with fail
    refine (unhide D5).mono ?_
    rintro e w6 ⟨rfl, hb6⟩
    have B6 := hide ((unhide B5).trans (hb6.mono (unhide B5).size))
    have D6 := hide (left_any a2 g2 g2 m c2 c2 t w6 ((unhide Y2).below hb6) ((unhide T2).below hb6) (by omega))
    clear hb6 D5 B5 Y1 Y2 T1 T2
    go_wp2_with fail
    refine (unhide D6).mono ?_
    rintro e w7 ⟨rfl, hb7⟩
    have B7 := hide ((unhide B6).trans (hb7.mono (unhide B6).size))
    clear hb7 D6 B6
    go_wp2_with fail
    go_ret
    exact ⟨rfl, unhide B7⟩
end Go.Proofs.Ytjgboecifonjdaa.Se
