/- The law SetsLeaves: walked. -/
import Derived.Test.YtjgboecifonjdaaDoorBookB
import Derived.Test.YtjgboecifonjdaaDoorSeRefLeaves
import Derived.Test.YtjgboecifonjdaaDoorSeTwin
import Derived.Test.YtjgboecifonjdaaDoorSeList
import Derived.Test.YtjgboecifonjdaaDoorBeyond2
namespace Go.Proofs.YtjgboecifonjdaaDoor.Se
open Go.RowKit

theorem TwinB.by {w : World} {base g n : Nat} {l : Bs} (h : TwinB w base g n l) (hl : l.length = n) : By w (some ⟨g, 0, none⟩) n (n + 1) l := by
  obtain ⟨a, c, e, hy⟩ := by_row h.1
  simp at e
  obtain ⟨rfl, _, rfl⟩ := e
  rw [hl] at hy
  exact hy
theorem same_rows {b1 b2 : Nat} {v1 v2 : Value} {l : Bs} {w : World} (h1 : Row b1 v1 l w) (h2 : Row b2 v2 l w) (hn : l.length ≤ 4611686018427387904) :
    Calls Tryd.prog 7 #[v1, v2] w fun e w' => e = .returned (.bool true) ∧ Below w.heap.size w w' := by
  obtain ⟨a1, c1, rfl, f1⟩ := by_row h1
  obtain ⟨a2, c2, rfl, f2⟩ := by_row h2
  exact same_any a1 a2 l.length c1 c2 c1 c2 l w hn f1 f2
theorem aloof {w w' : World} {B1 B2 : Nat} {v1 v2 : Value} {l1 l2 : Bs} (h1 : Row B1 v1 l1 w) (h2 : Row B2 v2 l2 w') (h : w.heap.size ≤ B2) : ∀ k, v1.ownBlock = some k → v2.ownBlock = some k → False := by
  intro k k1 k2
  have := (Bk.own_block h1 k k1).1
  have := Bk.own_lo h2 k k2
  omega
theorem three_given {B : Nat} {l r : Bs} {t a b : Value} {w : World} (h0 : Row B t l w) (h1 : Row B a r w) (h2 : Row B b r w) (hTA : ∀ k, t.ownBlock = some k → a.ownBlock = some k → False) (hTB : ∀ k, t.ownBlock = some k → b.ownBlock = some k → False) (hAB : ∀ k, a.ownBlock = some k → b.ownBlock = some k → False) (hl : l.length ≤ 4194304) (hr : r.length ≤ 4194304) :
    Bk.Given B 5 1 [⟨t, 1, l.length, Lib.byteCells l⟩, ⟨a, 2, r.length, Lib.byteCells r⟩, ⟨b, 3, r.length, Lib.byteCells r⟩] w := by
  refine ⟨?_, ?_⟩
  · intro x hx
    simp only [List.mem_cons, List.not_mem_nil, or_false] at hx
    rcases hx with rfl | rfl | rfl
    · exact ⟨h0, by simp, hl⟩
    · exact ⟨h1, by simp, hr⟩
    · exact ⟨h2, by simp, hr⟩
  · refine List.Pairwise.cons ?_ (List.Pairwise.cons ?_ (List.Pairwise.cons ?_ List.Pairwise.nil))
    · intro x hx
      simp only [List.mem_cons, List.not_mem_nil, or_false] at hx
      rcases hx with rfl | rfl
      · exact hTA
      · exact hTB
    · intro x hx
      simp only [List.mem_cons, List.not_mem_nil, or_false] at hx
      subst hx
      exact hAB
    · intro x hx
      cases hx
theorem rest_le' (l : Bs) : (rest l).length ≤ 256 := rest_le l

set_option maxHeartbeats 1000000 in
set_option maxRecDepth 100000 in
theorem leaves_walk (s : ByteArray) (a : Option Addr) (n cap : Nat) (l : Bs) (w : World) (h1 : By w a n cap l) (hs : s.size ≤ reachBytes) (hn : n ≤ reachBytes) :
    Calls Tryd.prog 3 #[.string s, .slice a n cap] w fun e w' => e = .returned (.bool true) ∧ Below w.heap.size w w' := by
  unfold reachBytes at hs hn
  have H1 := hide h1
  have HL := hide h1.len
  clear h1
  go_enter Tryd.func3, Tryd.ntmps3
  go_wp2_with fail
  refine (Pa.beyond_two (s.size : Int) (n : Int) w.heap.size _ (by simp) (by simp) (by omega) (by omega) (by omega) (by omega)).mono ?_
  rintro e w' ⟨rfl, rfl⟩
  have hb1 : Below w.heap.size w (w.alloc (.cells #[.int .i64 s.size, .int .i64 n] 3)) := (Below.refl _ _).alloc (Nat.le_refl _) _
  generalize (w.alloc (.cells #[.int .i64 s.size, .int .i64 n] 3)) = w1 at *
  have B1 := hide hb1
  have Y1 := hide ((unhide H1).below hb1)
  clear hb1 H1
  by_cases hb : 1048576 < (s.size : Int) + (n : Int)
  · go_wp2_with fail
    go_ret
    exact ⟨rfl, unhide B1⟩
  · have hrl := rest_le' l
    have CR : Hid (∀ (W : World) g, TwinB W g g n l → Calls Tryd.prog 6 #[.slice (some ⟨g, 0, none⟩) n (n + 1)] W fun e w' => ∃ v, e = .returned v ∧ Row W.heap.size v (rest l) w' ∧ Below W.heap.size W w') := fun W g h => rest_any _ n (n + 1) (n + 1) l W (h.by (unhide HL)) (by omega)
    have CRR : Hid (∀ (W : World), By W a n cap l → Calls Tryd.prog 8 #[.slice a n cap] W fun e w' => ∃ v, e = .returned v ∧ Row W.heap.size v (rest l) w' ∧ Below W.heap.size W w') := fun W h => refRest_any a n cap cap l W h (by omega)
    have CD : Hid (∀ (W : World) g, TwinB W g g n l → Calls Tryd.prog 9 #[.string s, .slice (some ⟨g, 0, none⟩) n (n + 1)] W fun e w' => e = .returned (.string ⟨(drop (bs s) l).toArray⟩) ∧ Below W.heap.size W w') := fun W g h => drop_any s _ n (n + 1) (n + 1) l W (h.by (unhide HL)) (by omega) (by omega)
    have CRD : Hid (∀ (W : World), By W a n cap l → Calls Tryd.prog 10 #[.string s, .slice a n cap] W fun e w' => e = .returned (.string ⟨(drop (bs s) l).toArray⟩) ∧ Below W.heap.size W w') := fun W h => refDrop_any s a n cap cap l W h (by omega) (by omega)
    have CQ : Hid (∀ (W : World) g, TwinB W g g n l → Calls Tryd.prog 11 #[.string s, .slice (some ⟨g, 0, none⟩) n (n + 1)] W fun e w' => e = .returned (.string ⟨(squeeze (bs s) l).toArray⟩) ∧ Below W.heap.size W w') := fun W g h => squeeze_any s _ n (n + 1) (n + 1) l W (h.by (unhide HL)) (by omega) (by omega)
    have CRQ : Hid (∀ (W : World), By W a n cap l → Calls Tryd.prog 12 #[.string s, .slice a n cap] W fun e w' => e = .returned (.string ⟨(squeeze (bs s) l).toArray⟩) ∧ Below W.heap.size W w') := fun W h => refSqueeze_any s a n cap cap l W h (by omega) (by omega)
    generalize (⟨(drop (bs s) l).toArray⟩ : ByteArray) = XD at *
    generalize (⟨(squeeze (bs s) l).toArray⟩ : ByteArray) = XQ at *
    generalize rest l = R at *
    have tD : (XD.toList != XD.toList) = false := by simp
    have tQ : (XQ.toList != XQ.toList) = false := by simp
    have C1 := hide (twin_any a n cap cap l w1 (unhide Y1) (by omega))
    go_wp2_with fail
    refine (unhide C1).mono ?_
    rintro e w2 ⟨rfl, hT, hb2⟩
    have N1 := hide (unhide B1).size
    obtain ⟨g, hg⟩ : ∃ g, g = w1.heap.size := ⟨_, rfl⟩
    rw [← hg] at hT N1 ⊢
    have B2 := hide ((unhide B1).trans (hb2.mono (unhide B1).size))
    have Y2 := hide ((unhide Y1).below hb2)
    have T2 := hide hT
    clear hT hb2 C1 B1 Y1 hg
    -- the rest, twice
    have D2 := hide (unhide CR w2 g (unhide T2))
    go_wp2_with fail
    refine (unhide D2).mono ?_
    rintro e w3 ⟨va, rfl, ra, hb3⟩
    have B3 := hide ((unhide B2).trans (hb3.mono (unhide B2).size))
    have Y3 := hide ((unhide Y2).below hb3)
    have T3 := hide ((unhide T2).below hb3)
    have Ata := hide (aloof (unhide T2).1 ra (Nat.le_refl _))
    have RA3 : Hid (Row w.heap.size va R w3) := row_base ra (unhide B2).size
    clear ra hb3 D2 B2 Y2 T2
    have D3 := hide (unhide CR w3 g (unhide T3))
    go_wp2_with fail
    refine (unhide D3).mono ?_
    rintro e w4 ⟨vb, rfl, rb, hb4⟩
    have B4 := hide ((unhide B3).trans (hb4.mono (unhide B3).size))
    have Y4 := hide ((unhide Y3).below hb4)
    have T4 := hide ((unhide T3).below hb4)
    have RA4 := hide (row_below (unhide RA3) hb4)
    have Atb := hide (aloof (unhide T3).1 rb (Nat.le_refl _))
    have Aab := hide (aloof (unhide RA3) rb (Nat.le_refl _))
    have RB4 : Hid (Row w.heap.size vb R w4) := row_base rb (unhide B3).size
    have D4 := hide (unhide CRR w4 (unhide Y4))
    clear rb hb4 D3 B3 Y3 T3 RA3 CR CRR
    go_wp2_with fail
    refine (unhide D4).mono ?_
    rintro e w5 ⟨vx, rfl, rx, hb5⟩
    have B5 := hide ((unhide B4).trans (hb5.mono (unhide B4).size))
    have Y5 := hide ((unhide Y4).below hb5)
    have T5 := hide ((unhide T4).below hb5)
    have RA5 := hide (row_below (unhide RA4) hb5)
    have RB5 := hide (row_below (unhide RB4) hb5)
    have D5 := hide (same_rows (unhide RA5) rx (by omega))
    clear rx hb5 D4 B4 Y4 T4 RA4 RB4
    go_wp2_with fail
    refine (unhide D5).mono ?_
    rintro e w6 ⟨rfl, hb6⟩
    have B6 := hide ((unhide B5).trans (hb6.mono (unhide B5).size))
    have Y6 := hide ((unhide Y5).below hb6)
    have T6 := hide ((unhide T5).below hb6)
    have RA6 := hide (row_below (unhide RA5) hb6)
    have RB6 := hide (row_below (unhide RB5) hb6)
    have D6 := hide (unhide CD w6 g (unhide T6))
    clear hb6 D5 B5 Y5 T5 RA5 RB5 CD
    go_wp2_with fail
    refine (unhide D6).mono ?_
    rintro e w7 ⟨rfl, hb7⟩
    have B7 := hide ((unhide B6).trans (hb7.mono (unhide B6).size))
    have Y7 := hide ((unhide Y6).below hb7)
    have T7 := hide ((unhide T6).below hb7)
    have RA7 := hide (row_below (unhide RA6) hb7)
    have RB7 := hide (row_below (unhide RB6) hb7)
    have D7 := hide (unhide CRD w7 (unhide Y7))
    clear hb7 D6 B6 Y6 T6 RA6 RB6 CRD
    go_wp2_with fail
    refine (unhide D7).mono ?_
    rintro e w8 ⟨rfl, hb8⟩
    have B8 := hide ((unhide B7).trans (hb8.mono (unhide B7).size))
    have Y8 := hide ((unhide Y7).below hb8)
    have T8 := hide ((unhide T7).below hb8)
    have RA8 := hide (row_below (unhide RA7) hb8)
    have RB8 := hide (row_below (unhide RB7) hb8)
    have D8 := hide (unhide CQ w8 g (unhide T8))
    clear hb8 D7 B7 Y7 T7 RA7 RB7 CQ
    go_wp2_with fail
    refine (unhide D8).mono ?_
    rintro e w9 ⟨rfl, hb9⟩
    have B9 := hide ((unhide B8).trans (hb9.mono (unhide B8).size))
    have Y9 := hide ((unhide Y8).below hb9)
    have T9 := hide ((unhide T8).below hb9)
    have RA9 := hide (row_below (unhide RA8) hb9)
    have RB9 := hide (row_below (unhide RB8) hb9)
    have D9 := hide (unhide CRQ w9 (unhide Y9))
    clear hb9 D8 B8 Y8 T8 RA8 RB8 CRQ
    go_wp2_with fail
    refine (unhide D9).mono ?_
    rintro e wA ⟨rfl, hbA⟩
    have BA := hide ((unhide B9).trans (hbA.mono (unhide B9).size))
    have YA := hide ((unhide Y9).below hbA)
    have TA := hide ((unhide T9).below hbA)
    have RAA := hide (row_below (unhide RA9) hbA)
    have RBA := hide (row_below (unhide RB9) hbA)
    have DA := hide (left_any a g g n cap cap l wA (unhide YA) (unhide TA) (by omega))
    clear hbA D9 B9 Y9 T9 RA9 RB9
    go_wp2_with fail
    refine (unhide DA).mono ?_
    rintro e wB ⟨rfl, hbB⟩
    have BB := hide ((unhide BA).trans (hbB.mono (unhide BA).size))
    have TB := hide ((unhide TA).below hbB)
    have RAB := hide (row_below (unhide RAA) hbB)
    have RBB := hide (row_below (unhide RBA) hbB)
    have RTB : Hid (Row w.heap.size (.slice (some ⟨g, 0, none⟩) n (n + 1)) l wB) := row_base (unhide TB).1 (unhide N1)
    clear hbB DA BA YA TA RAA RBA TB
    go_wp2_with fail
    obtain ⟨P, hP⟩ : ∃ P, P = wB.heap.size := ⟨_, rfl⟩
    rw [← hP]
    have hs9 := (unhide BB).size
    obtain ⟨w10, hw10⟩ : ∃ W, W = wB.alloc (Obj.cells #[Value.int IntKind.i64 0, Value.slice none 0 0, Value.slice none 0 0, Value.slice none 0 0, Value.slice none 0 0, Value.slice none 0 0, Value.slice none 0 0, Value.slice none 0 0, Value.slice none 0 0, Value.slice none 0 0, Value.slice none 0 0, Value.slice none 0 0, Value.slice none 0 0] 40) := ⟨_, rfl⟩
    rw [← hw10]
    have hO := Bk.own_new wB P hP
    rw [← hw10] at hO
    have hb10 : Below wB.heap.size wB w10 := by rw [hw10]; exact (Below.refl _ _).alloc (Nat.le_refl _) _
    have HT10 := hide (row_below (unhide RTB) hb10)
    have HA10 := hide (row_below (unhide RAB) hb10)
    have HBb10 := hide (row_below (unhide RBB) hb10)
    have HB10 : Hid (Below w.heap.size w w10) := (unhide BB).trans (hb10.mono hs9)
    have hBk : Bk.BB w.heap.size P 0 [] w10 := Bk.BB.start hO (by omega) (unhide HB10).size
    have C11 := hide (Bk.bytes_step w.heap.size P 0 [] w10 hBk (.slice (some ⟨g, 0, none⟩) n (n + 1)) l.length (Lib.byteCells l) _ 1 (unhide HT10) (by omega) (by simp))
    clear hO hw10 hP hb10 BB RTB RAB RBB hBk
    go_wp2_with fail
    refine (unhide C11).mono ?_
    rintro e w11 ⟨rfl, hBk11, hk11⟩
    have HB11 : Hid (Below w.heap.size w w11) := (unhide HB10).trans (hk11.below (unhide HB10).size)
    have HT11 := hide (hk11.own (unhide HT10) (by decide))
    have HA11 := hide (hk11.own (unhide HA10) (by decide))
    have HBb11 := hide (hk11.own (unhide HBb10) (by decide))
    have C12 := hide (Bk.bytes_step w.heap.size P (0 + 1) _ w11 hBk11 va R.length (Lib.byteCells R) _ 1 (unhide HA11) (by omega) (by simp))
    clear C11 hBk11 hk11 HB10 HT10 HA10 HBb10
    go_wp2_with fail
    refine (unhide C12).mono ?_
    rintro e w12 ⟨rfl, hBk12, hk12⟩
    have HB12 : Hid (Below w.heap.size w w12) := (unhide HB11).trans (hk12.below (unhide HB11).size)
    have HT12 := hide (hk12.own (unhide HT11) (by decide))
    have HA12 := hide (hk12.own (unhide HA11) (by decide))
    have HBb12 := hide (hk12.own (unhide HBb11) (by decide))
    have C13 := hide (Bk.bytes_step w.heap.size P (0 + 1 + 1) _ w12 hBk12 vb R.length (Lib.byteCells R) _ 1 (unhide HBb12) (by omega) (by simp))
    clear C12 hBk12 hk12 HB11 HT11 HA11 HBb11
    go_wp2_with fail
    refine (unhide C13).mono ?_
    rintro e w13 ⟨rfl, hBk13, hk13⟩
    have HB13 : Hid (Below w.heap.size w w13) := (unhide HB12).trans (hk13.below (unhide HB12).size)
    have HT13 := hide (hk13.own (unhide HT12) (by decide))
    have HA13 := hide (hk13.own (unhide HA12) (by decide))
    have HBb13 := hide (hk13.own (unhide HBb12) (by decide))
    have C14 := hide (Bk.apart_step w.heap.size P _ _ w13 hBk13 (three_given (unhide HT13) (unhide HA13) (unhide HBb13) (unhide Ata) (unhide Atb) (unhide Aab) (by rw [unhide HL]; omega) (by omega)) (by simp))
    clear C13 hBk13 hk13 HB12 HT12 HA12 HBb12
    go_wp2_with fail
    refine (unhide C14).mono ?_
    rintro e w14 ⟨rfl, hb14⟩
    go_wp2_with fail
    go_ret
    exact ⟨rfl, (unhide HB13).trans hb14⟩
end Go.Proofs.YtjgboecifonjdaaDoor.Se
