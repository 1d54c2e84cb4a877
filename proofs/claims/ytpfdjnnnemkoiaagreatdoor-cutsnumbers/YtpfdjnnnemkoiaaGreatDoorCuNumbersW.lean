/- The walk of CutsNumbers. -/
import Derived.Test.YtpfdjnnnemkoiaaGreatDoorCuBookZ
import Derived.Test.YtpfdjnnnemkoiaaGreatDoorCuRefNum
import Derived.Test.YtpfdjnnnemkoiaaGreatDoorTextsSize
import Derived.Test.YtpfdjnnnemkoiaaGreatDoorBeyond
namespace Go.Proofs.YtpfdjnnnemkoiaaGreatDoor.Cu
open Go.RowKit Go.Shelf
open Pa (Tx tot TwinT)

theorem tot_mem : ∀ {A : List ByteArray} {s : ByteArray}, s ∈ A → s.size ≤ tot A
  | x :: l, s, h => by
    rcases List.mem_cons.1 h with rfl | h
    · simp [tot]
    · have := tot_mem h; simp [tot]; omega
theorem cells_txs (L : List ByteArray) : cellsS (txs L) = L.map Value.string := by
  unfold cellsS txs
  rw [List.map_map]
  rfl
theorem twin_rowS {w : World} {base g n : Nat} {L : List ByteArray} (h : TwinT w base g n L) (hn : L.length = n) : RowS base (.slice (some ⟨g, 0, none⟩) n (n + 1)) (txs L) w := by
  subst hn
  show w.ownsRow _ _ _ _ _ _
  rw [cells_txs, List.length_map]
  exact h.1
theorem twin_tx {w : World} {base g n : Nat} {L : List ByteArray} (h : TwinT w base g n L) (hn : L.length = n) : Tx w (some ⟨g, 0, none⟩) n (n + 1) L := by
  subst hn
  obtain ⟨x, c, e, t⟩ := Pa.tx_of_owns h.1
  obtain ⟨rfl, -, rfl⟩ := Value.slice.inj e
  exact t
theorem twin_below {w w' : World} {base g n : Nat} {L : List ByteArray} (h : TwinT w base g n L) (hb : Below w.heap.size w w') : TwinT w' base g n L :=
  ⟨h.1.kept (row := none) ⟨hb.os, hb.tape, hb.output, hb.size, fun k hk _ => hb.block k hk⟩ (by cases (Value.slice (some ⟨g, 0, none⟩) n (n + 1)).ownBlock <;> simp), (hb.cell (p := ⟨g, n, none⟩) (World.block_lt_of_cell? w _ h.2)).trans h.2⟩

set_option maxHeartbeats 2000000 in
set_option maxRecDepth 100000 in
theorem numbers_walk (a : Option Addr) (n cap : Nat) (ss : List ByteArray) (fr wd : Int) (w : World) (hT : Tx w a n cap ss) (hn : n ≤ 4611686018427387904) (hss : ∀ s ∈ ss, s.size ≤ 4611686018427387904) (ht : Tab w) :
    Calls Tryz.prog 3 #[.slice a n cap, .int .i64 fr, .int .i64 wd] w fun e w' => e = .returned (.bool true) ∧ Below w.heap.size w w' := by
  have HT := hide hT
  have HTab := hide ht
  have hsl := hT.len
  have TS := hide (Pa.textsSize_any a n cap ss w hT hn hss)
  clear hT ht
  go_enter Tryz.func3, Tryz.ntmps3
  go_wp2_with fail
  refine (unhide TS).mono ?_
  rintro e w0 ⟨⟨v, rfl, hv0, hv1, hv2⟩, rfl⟩
  clear TS
  have HV2 := hide hv2
  clear hv2
  go_wp2_with fail
  refine (Beyond.beyond_one v w0.heap.size _ (by simp) (by omega) (by omega)).mono ?_
  rintro e w' ⟨rfl, hw1⟩
  have hB1 : Below w0.heap.size w0 w' := by rw [hw1]; exact (Below.refl _ _).alloc (Nat.le_refl _) _
  clear hw1
  by_cases hb : 1048576 < v
  · rw [decide_eq_true hb]
    go_wp2_with fail
    go_ret
    exact ⟨rfl, hB1⟩
  · rw [decide_eq_false hb]
    have hve := unhide HV2 (by omega)
    have hn2 : n ≤ 1048576 := by omega
    have hss2 : ∀ s ∈ ss, s.size ≤ 70368744177664 := fun s hs => by have := tot_mem hs; omega
    have HSS := hide hss2
    clear HV2 hve hss2
    have hTw := hide (Pa.twinTexts_any a n cap ss w' ((unhide HT).below hB1) hn2)
    go_wp2_with fail
    refine (unhide hTw).mono ?_
    rintro e w1 ⟨rfl, ht1, hb1⟩
    clear hTw
    obtain ⟨g, hg⟩ : ∃ g, g = w'.heap.size := ⟨_, rfl⟩
    rw [← hg] at ht1 ⊢
    have HB1 : Hid (Below w0.heap.size w0 w1) := hB1.trans (hb1.mono hB1.size)
    have HTw1 := hide ht1
    have hgB : w0.heap.size ≤ g := by rw [hg]; exact hB1.size
    clear ht1 hb1 hg hB1
    obtain ⟨L, hL⟩ : ∃ L, L = numL (inside wd 32) (inside fr 2147483647) (txs ss) := ⟨_, rfl⟩
    have hLl : L.length = n := by rw [hL, numL_len, List.length_map]; exact hsl
    have C1 : Hid (∀ W, Below w0.heap.size w0 W → TwinT W g g n ss → Calls Tryz.prog 7 #[.slice (some ⟨g, 0, none⟩) n (n + 1), .int .i64 fr, .int .i64 wd] W fun e w' => ∃ v, e = .returned v ∧ RowS W.heap.size v L w' ∧ Below W.heap.size W w') := fun W hW hTW => by
      rw [hL]; exact number_any (some ⟨g, 0, none⟩) n (n + 1) (n + 1) ss fr wd W (twin_tx hTW hsl) ((unhide HTab).below hW) (by omega) (unhide HSS)
    have C3 : Hid (∀ W, Below w0.heap.size w0 W → Calls Tryz.prog 9 #[.slice a n cap, .int .i64 fr, .int .i64 wd] W fun e w' => ∃ v, e = .returned v ∧ RowS W.heap.size v L w' ∧ Below W.heap.size W w') := fun W hW => by
      rw [hL]; exact rnumber_any a n cap cap ss fr wd W ((unhide HT).below hW) (by omega) (unhide HSS)
    have C5 : Hid (∀ W, Below w0.heap.size w0 W → TwinT W g g n ss → Calls Tryz.prog 10 #[.slice (some ⟨g, 0, none⟩) n (n + 1), .slice a n cap] W fun e w' => e = .returned (.bool true) ∧ Below W.heap.size W w') := fun W hW hTW =>
      Pa.leftTexts_any g g a n cap ss W ((unhide HT).below hW) hTW hn2
    clear hL HSS HTab
    go_wp2_with fail
    refine (unhide C1 w1 (unhide HB1) (unhide HTw1)).mono ?_
    rintro e w2 ⟨va, rfl, ra, hb2⟩
    have HB2 : Hid (Below w0.heap.size w0 w2) := (unhide HB1).trans (hb2.mono (unhide HB1).size)
    have Ata := hide (aloof (twin_rowS (unhide HTw1) hsl) ra (Nat.le_refl _))
    have HTw2 := hide (twin_below (unhide HTw1) hb2)
    have HA2 : Hid (RowS w0.heap.size va L w2) := Bk.own_base ra (unhide HB1).size
    clear HTw1 ra hb2 HB1
    go_wp2_with fail
    refine (unhide C1 w2 (unhide HB2) (unhide HTw2)).mono ?_
    rintro e w3 ⟨vb, rfl, rb, hb3⟩
    have HB3 : Hid (Below w0.heap.size w0 w3) := (unhide HB2).trans (hb3.mono (unhide HB2).size)
    have Atb := hide (aloof (twin_rowS (unhide HTw2) hsl) rb (Nat.le_refl _))
    have Aab := hide (aloof (unhide HA2) rb (Nat.le_refl _))
    have HTw3 := hide (twin_below (unhide HTw2) hb3)
    have HA3 := hide ((unhide HA2).below hb3)
    have HBb3 : Hid (RowS w0.heap.size vb L w3) := Bk.own_base rb (unhide HB2).size
    clear HTw2 HA2 rb hb3 HB2 C1
    go_wp2_with fail
    refine (unhide C3 w3 (unhide HB3)).mono ?_
    rintro e w4 ⟨vx, rfl, rx, hb4⟩
    have HB4 : Hid (Below w0.heap.size w0 w4) := (unhide HB3).trans (hb4.mono (unhide HB3).size)
    have HTw4 := hide (twin_below (unhide HTw3) hb4)
    have HA4 := hide ((unhide HA3).below hb4)
    have HBb4 := hide ((unhide HBb3).below hb4)
    have HX4 := hide rx
    clear HTw3 HA3 HBb3 rx hb4 HB3 C3
    go_wp2_with fail
    refine (same_rows (unhide HA4) (unhide HX4) (by omega)).mono ?_
    rintro e w5 ⟨rfl, hb5⟩
    have HB5 : Hid (Below w0.heap.size w0 w5) := (unhide HB4).trans (hb5.mono (unhide HB4).size)
    have HTw5 := hide (twin_below (unhide HTw4) hb5)
    have HA5 := hide ((unhide HA4).below hb5)
    have HBb5 := hide ((unhide HBb4).below hb5)
    clear HTw4 HA4 HBb4 HX4 hb5 HB4
    go_wp2_with fail
    refine (unhide C5 w5 (unhide HB5) (unhide HTw5)).mono ?_
    rintro e w9 ⟨rfl, hb9⟩
    have HB9 : Hid (Below w0.heap.size w0 w9) := (unhide HB5).trans (hb9.mono (unhide HB5).size)
    have HT9 : Hid (RowS w0.heap.size (.slice (some ⟨g, 0, none⟩) n (n + 1)) (txs ss) w9) := Bk.own_base (twin_rowS (twin_below (unhide HTw5) hb9) hsl) hgB
    have HA9 := hide ((unhide HA5).below hb9)
    have HBb9 := hide ((unhide HBb5).below hb9)
    clear HTw5 HA5 HBb5 hb9 HB5 C5
    go_wp2_with fail
    obtain ⟨P, hP⟩ : ∃ P, P = w9.heap.size := ⟨_, rfl⟩
    rw [← hP]
    have hs9 := (unhide HB9).size
    obtain ⟨w10, hw10⟩ : ∃ W, W = w9.alloc (Obj.cells #[Value.int IntKind.i64 0, Value.slice none 0 0, Value.slice none 0 0, Value.slice none 0 0, Value.slice none 0 0, Value.slice none 0 0, Value.slice none 0 0, Value.slice none 0 0, Value.slice none 0 0, Value.slice none 0 0, Value.slice none 0 0, Value.slice none 0 0, Value.slice none 0 0] 41) := ⟨_, rfl⟩
    rw [← hw10]
    have hO := Bk.own_new w9 P hP
    rw [← hw10] at hO
    have hb10 : Below w9.heap.size w9 w10 := by rw [hw10]; exact (Below.refl _ _).alloc (Nat.le_refl _) _
    have HT10 := hide ((unhide HT9).below hb10)
    have HA10 := hide ((unhide HA9).below hb10)
    have HBb10 := hide ((unhide HBb9).below hb10)
    have HB10 : Hid (Below w0.heap.size w0 w10) := (unhide HB9).trans (hb10.mono hs9)
    have K0 : Hid (Bk.BTF w0.heap.size P 0 [] [] w10) := Bk.BTF.start hO (by omega) (unhide HB10).size
    clear hw10 hO hb10 hP hs9 HT9 HA9 HBb9 HB9
    refine (Bk.texts_step _ _ _ _ _ _ (unhide K0) _ _ _ _ _ (unhide HT10) (by decide) (by decide)).mono ?_
    rintro e w11 ⟨rfl, k1, hk1⟩
    have K1 := hide k1
    have HT11 : Hid (RowS w0.heap.size (.slice (some ⟨g, 0, none⟩) n (n + 1)) (txs ss) w11) := hk1.text (unhide HT10)
    have HA11 : Hid (RowS w0.heap.size va L w11) := hk1.text (unhide HA10)
    have HBb11 : Hid (RowS w0.heap.size vb L w11) := hk1.text (unhide HBb10)
    have HB11 : Hid (Below w0.heap.size w0 w11) := (unhide HB10).trans (hk1.below (unhide HB10).size)
    clear k1 hk1 K0 HT10 HA10 HBb10 HB10
    go_wp2_with fail
    refine (Bk.texts_step _ _ _ _ _ _ (unhide K1) _ _ _ _ _ (unhide HA11) (by decide) (by simp)).mono ?_
    rintro e w12 ⟨rfl, k1, hk1⟩
    have K2 := hide k1
    have HT12 : Hid (RowS w0.heap.size (.slice (some ⟨g, 0, none⟩) n (n + 1)) (txs ss) w12) := hk1.text (unhide HT11)
    have HA12 : Hid (RowS w0.heap.size va L w12) := hk1.text (unhide HA11)
    have HBb12 : Hid (RowS w0.heap.size vb L w12) := hk1.text (unhide HBb11)
    have HB12 : Hid (Below w0.heap.size w0 w12) := (unhide HB11).trans (hk1.below (unhide HB11).size)
    clear k1 hk1 K1 HT11 HA11 HBb11 HB11
    go_wp2_with fail
    refine (Bk.texts_step _ _ _ _ _ _ (unhide K2) _ _ _ _ _ (unhide HBb12) (by decide) (by simp)).mono ?_
    rintro e w13 ⟨rfl, k1, hk1⟩
    have K3 := hide k1
    have HT13 : Hid (RowS w0.heap.size (.slice (some ⟨g, 0, none⟩) n (n + 1)) (txs ss) w13) := hk1.text (unhide HT12)
    have HA13 : Hid (RowS w0.heap.size va L w13) := hk1.text (unhide HA12)
    have HBb13 : Hid (RowS w0.heap.size vb L w13) := hk1.text (unhide HBb12)
    have HB13 : Hid (Below w0.heap.size w0 w13) := (unhide HB12).trans (hk1.below (unhide HB12).size)
    clear k1 hk1 K2 HT12 HA12 HBb12 HB12
    go_wp2_with fail
    refine (Bk.apart_step _ _ _ _ _ _ (unhide K3) (by exact given_three (unhide HT13) (unhide HA13) (unhide HBb13) (unhide Ata) (unhide Atb) (unhide Aab) (by rw [List.length_map]; omega) (by omega)) (no_flags _ _) (by simp) (by simp)).mono ?_
    rintro e w15 ⟨rfl, hb15⟩
    have HB15 : Hid (Below w0.heap.size w0 w15) := (unhide HB13).trans hb15
    clear hb15 K3 HT13 HA13 HBb13 HB13
    go_wp2_with fail
    go_ret
    exact ⟨rfl, unhide HB15⟩
end Go.Proofs.YtpfdjnnnemkoiaaGreatDoor.Cu
