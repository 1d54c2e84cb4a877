/- The law ListsForms, by cases: walked. -/
import Derived.Test.YtijoemamnkhhnaaDoorLsForms
namespace Go.Proofs.YtijoemamnkhhnaaDoor.Ls
open Go.RowKit Go.Shelf

set_option maxRecDepth 100000 in
set_option maxHeartbeats 800000 in
theorem forms_12 (f t : Nat) (n : Int) (w : World) (hf : (f : Int) ≤ 4294967295) (htt : (t : Int) ≤ 4294967295) (ht : Tab w) (h1 : 1 ≤ (f : Int)) (h2 : (f : Int) ≤ 2147483647) (h3 : 2147483647 < (t : Int)) (C : Fm f t [((f : Int), (f : Int))] [] [((f : Int), 0)] [] 0 5 0 5) :
    Calls Tryd.prog 7 #[.int .u32 f, .int .u32 t, .int .i64 n] w fun e w' => e = .returned (.bool true) ∧ Below w.heap.size w w' := by
  have HT := hide ht
  have HC := hide C
  clear ht C
  obtain ⟨a, ha⟩ : ∃ a : ByteArray, a = ⟨(Lib.decDigits f).toArray⟩ := ⟨_, rfl⟩
  have hcase : (n < (f : Int)) ∨ (n = (f : Int)) ∨ ((f : Int) < n) := by omega
  clear ha a
  rcases hcase with hn1 | hn1 | hn1
  · have k1 : (n == (f : Int)) = false := by simp; omega
    have k2 : ¬ (f : Int) ≤ n := by omega
    have V1 : Hid (has [((f : Int), (f : Int))] n = false) := by show _ = _; exact hasd ⟨rfl, by unfold inRp; simp; try omega⟩
    have V2 : Hid (has [] n = false) := by show _ = _; exact hasd rfl
    have V3 : Hid (has [((f : Int), 0)] n = false) := by show _ = _; exact hasd ⟨rfl, by unfold inRp; simp; try omega⟩
    have V4 : Hid (has [] n = false) := by show _ = _; exact hasd rfl
    clear hn1
    go_enter Tryd.func7, Tryd.ntmps7
    go_wp2_with fail
    refine (alive_any _ (unhide HT)).mono ?_
    rintro e w1 ⟨rfl, hb1⟩
    clear HT
    go_wp2_with fail
    refine (digits_any f _ (by omega)).mono ?_
    rintro e w2 ⟨⟨a, rfl, ha, has⟩, rfl⟩
    have HA := hide ha
    clear ha
    go_wp2_with fail
    refine (digits_any t _ (by omega)).mono ?_
    rintro e w3 ⟨⟨b, rfl, hb, hbs⟩, rfl⟩
    have HB := hide hb
    clear hb
    have P1 := hide (fun w => parse_is w (s := a) (l := [((f : Int), (f : Int))]) (n := 0) (by omega) (by rw [unhide HA]; exact (unhide HC).p1.1) (by rw [unhide HA]; exact (unhide HC).p1.2))
    have P2 := hide (fun w => parse_is w (s := a ++ { data := #[45] } ++ b) (l := []) (n := 5) (by rw [sz2]; omega) (by rw [cat2, unhide HA, unhide HB]; exact (unhide HC).p2.1) (by rw [cat2, unhide HA, unhide HB]; exact (unhide HC).p2.2))
    have P3 := hide (fun w => parse_is w (s := a ++ { data := #[45] }) (l := [((f : Int), 0)]) (n := 0) (by rw [sz3]; omega) (by rw [cat3, unhide HA]; exact (unhide HC).p3.1) (by rw [cat3, unhide HA]; exact (unhide HC).p3.2))
    have P4 := hide (fun w => parse_is w (s := { data := #[45] } ++ b) (l := []) (n := 5) (by rw [sz4]; omega) (by rw [cat4, unhide HB]; exact (unhide HC).p4.1) (by rw [cat4, unhide HB]; exact (unhide HC).p4.2))
    clear HA HB HC
    go_wp2_with fail
    refine (unhide P1 _).mono ?_
    rintro e w4 ⟨a1, c1, rfl, hR, hb⟩
    have R1_4 : Hid (Rg w4 a1 1 c1 [((f : Int), (f : Int))]) := hR
    have hB4 : Hid (Below w.heap.size w w4) := hb1.trans (hb.mono hb1.size)
    clear hb hR P1 hb1
    go_wp2_with fail
    refine (unhide P2 _).mono ?_
    rintro e w5 ⟨a2, c2, rfl, hR, hb⟩
    have R2_5 : Hid (Rg w5 a2 0 c2 []) := hR
    have hB5 : Hid (Below w.heap.size w w5) := (unhide hB4).trans (hb.mono (unhide hB4).size)
    have R1_5 := hide ((unhide R1_4).below hb)
    clear hb hR P2 hB4 R1_4
    go_wp2_with fail
    refine (unhide P3 _).mono ?_
    rintro e w6 ⟨a3, c3, rfl, hR, hb⟩
    have R3_6 : Hid (Rg w6 a3 1 c3 [((f : Int), 0)]) := hR
    have hB6 : Hid (Below w.heap.size w w6) := (unhide hB5).trans (hb.mono (unhide hB5).size)
    have R1_6 := hide ((unhide R1_5).below hb)
    have R2_6 := hide ((unhide R2_5).below hb)
    clear hb hR P3 hB5 R1_5 R2_5
    go_wp2_with fail
    refine (unhide P4 _).mono ?_
    rintro e w7 ⟨a4, c4, rfl, hR, hb⟩
    have R4_7 : Hid (Rg w7 a4 0 c4 []) := hR
    have hB7 : Hid (Below w.heap.size w w7) := (unhide hB6).trans (hb.mono (unhide hB6).size)
    have R1_7 := hide ((unhide R1_6).below hb)
    have R2_7 := hide ((unhide R2_6).below hb)
    have R3_7 := hide ((unhide R3_6).below hb)
    clear hb hR P4 hB6 R1_6 R2_6 R3_6
    have H1 := hide (has_any a1 1 c1 c1 [((f : Int), (f : Int))] n w7 (unhide R1_7) (by decide))
    rw [unhide V1] at H1
    go_wp2_with fail
    refine (unhide H1).mono ?_
    rintro e w8 ⟨rfl, hb⟩
    have hB8 : Hid (Below w.heap.size w w8) := (unhide hB7).trans (hb.mono (unhide hB7).size)
    have R2_8 := hide ((unhide R2_7).below hb)
    have R3_8 := hide ((unhide R3_7).below hb)
    have R4_8 := hide ((unhide R4_7).below hb)
    clear hb hB7 H1 V1 R1_7 R2_7 R3_7 R4_7
    have H3 := hide (has_any a3 1 c3 c3 [((f : Int), 0)] n w8 (unhide R3_8) (by decide))
    rw [unhide V3] at H3
    go_wp2_with fail
    refine (unhide H3).mono ?_
    rintro e w9 ⟨rfl, hb⟩
    have hB9 : Hid (Below w.heap.size w w9) := (unhide hB8).trans (hb.mono (unhide hB8).size)
    have R2_9 := hide ((unhide R2_8).below hb)
    have R4_9 := hide ((unhide R4_8).below hb)
    clear hb hB8 H3 V3 R3_8 R2_8 R4_8
    have H4 := hide (has_any a4 0 c4 c4 [] n w9 (unhide R4_9) (by decide))
    rw [unhide V4] at H4
    go_wp2_with fail
    refine (unhide H4).mono ?_
    rintro e w10 ⟨rfl, hb⟩
    have hB10 : Hid (Below w.heap.size w w10) := (unhide hB9).trans (hb.mono (unhide hB9).size)
    have R2_10 := hide ((unhide R2_9).below hb)
    clear hb hB9 H4 V4 R4_9 R2_9
    have H2 := hide (has_any a2 0 c2 c2 [] n w10 (unhide R2_10) (by decide))
    rw [unhide V2] at H2
    go_wp2_with fail
    refine (unhide H2).mono ?_
    rintro e w11 ⟨rfl, hb⟩
    have hB11 : Hid (Below w.heap.size w w11) := (unhide hB10).trans (hb.mono (unhide hB10).size)
    clear hb hB10 H2 V2 R2_10 
    go_wp2_with fail
    go_ret
    first | exact ⟨rfl, unhide hB11⟩ | exact ⟨ret_bl (by simp; omega), unhide hB11⟩
  · subst hn1
    have V1 : Hid (has [((f : Int), (f : Int))] (f : Int) = true) := by show _ = _; exact hasd ⟨rfl, by unfold inRp; simp; try omega⟩
    have V2 : Hid (has [] (f : Int) = false) := by show _ = _; exact hasd rfl
    have V3 : Hid (has [((f : Int), 0)] (f : Int) = true) := by show _ = _; exact hasd ⟨rfl, by unfold inRp; simp; try omega⟩
    have V4 : Hid (has [] (f : Int) = false) := by show _ = _; exact hasd rfl
    go_enter Tryd.func7, Tryd.ntmps7
    go_wp2_with fail
    refine (alive_any _ (unhide HT)).mono ?_
    rintro e w1 ⟨rfl, hb1⟩
    clear HT
    go_wp2_with fail
    refine (digits_any f _ (by omega)).mono ?_
    rintro e w2 ⟨⟨a, rfl, ha, has⟩, rfl⟩
    have HA := hide ha
    clear ha
    go_wp2_with fail
    refine (digits_any t _ (by omega)).mono ?_
    rintro e w3 ⟨⟨b, rfl, hb, hbs⟩, rfl⟩
    have HB := hide hb
    clear hb
    have P1 := hide (fun w => parse_is w (s := a) (l := [((f : Int), (f : Int))]) (n := 0) (by omega) (by rw [unhide HA]; exact (unhide HC).p1.1) (by rw [unhide HA]; exact (unhide HC).p1.2))
    have P2 := hide (fun w => parse_is w (s := a ++ { data := #[45] } ++ b) (l := []) (n := 5) (by rw [sz2]; omega) (by rw [cat2, unhide HA, unhide HB]; exact (unhide HC).p2.1) (by rw [cat2, unhide HA, unhide HB]; exact (unhide HC).p2.2))
    have P3 := hide (fun w => parse_is w (s := a ++ { data := #[45] }) (l := [((f : Int), 0)]) (n := 0) (by rw [sz3]; omega) (by rw [cat3, unhide HA]; exact (unhide HC).p3.1) (by rw [cat3, unhide HA]; exact (unhide HC).p3.2))
    have P4 := hide (fun w => parse_is w (s := { data := #[45] } ++ b) (l := []) (n := 5) (by rw [sz4]; omega) (by rw [cat4, unhide HB]; exact (unhide HC).p4.1) (by rw [cat4, unhide HB]; exact (unhide HC).p4.2))
    clear HA HB HC
    go_wp2_with fail
    refine (unhide P1 _).mono ?_
    rintro e w4 ⟨a1, c1, rfl, hR, hb⟩
    have R1_4 : Hid (Rg w4 a1 1 c1 [((f : Int), (f : Int))]) := hR
    have hB4 : Hid (Below w.heap.size w w4) := hb1.trans (hb.mono hb1.size)
    clear hb hR P1 hb1
    go_wp2_with fail
    refine (unhide P2 _).mono ?_
    rintro e w5 ⟨a2, c2, rfl, hR, hb⟩
    have R2_5 : Hid (Rg w5 a2 0 c2 []) := hR
    have hB5 : Hid (Below w.heap.size w w5) := (unhide hB4).trans (hb.mono (unhide hB4).size)
    have R1_5 := hide ((unhide R1_4).below hb)
    clear hb hR P2 hB4 R1_4
    go_wp2_with fail
    refine (unhide P3 _).mono ?_
    rintro e w6 ⟨a3, c3, rfl, hR, hb⟩
    have R3_6 : Hid (Rg w6 a3 1 c3 [((f : Int), 0)]) := hR
    have hB6 : Hid (Below w.heap.size w w6) := (unhide hB5).trans (hb.mono (unhide hB5).size)
    have R1_6 := hide ((unhide R1_5).below hb)
    have R2_6 := hide ((unhide R2_5).below hb)
    clear hb hR P3 hB5 R1_5 R2_5
    go_wp2_with fail
    refine (unhide P4 _).mono ?_
    rintro e w7 ⟨a4, c4, rfl, hR, hb⟩
    have R4_7 : Hid (Rg w7 a4 0 c4 []) := hR
    have hB7 : Hid (Below w.heap.size w w7) := (unhide hB6).trans (hb.mono (unhide hB6).size)
    have R1_7 := hide ((unhide R1_6).below hb)
    have R2_7 := hide ((unhide R2_6).below hb)
    have R3_7 := hide ((unhide R3_6).below hb)
    clear hb hR P4 hB6 R1_6 R2_6 R3_6
    have H1 := hide (has_any a1 1 c1 c1 [((f : Int), (f : Int))] (f : Int) w7 (unhide R1_7) (by decide))
    rw [unhide V1] at H1
    go_wp2_with fail
    refine (unhide H1).mono ?_
    rintro e w8 ⟨rfl, hb⟩
    have hB8 : Hid (Below w.heap.size w w8) := (unhide hB7).trans (hb.mono (unhide hB7).size)
    have R2_8 := hide ((unhide R2_7).below hb)
    have R3_8 := hide ((unhide R3_7).below hb)
    have R4_8 := hide ((unhide R4_7).below hb)
    clear hb hB7 H1 V1 R1_7 R2_7 R3_7 R4_7
    have H3 := hide (has_any a3 1 c3 c3 [((f : Int), 0)] (f : Int) w8 (unhide R3_8) (by decide))
    rw [unhide V3] at H3
    go_wp2_with fail
    refine (unhide H3).mono ?_
    rintro e w9 ⟨rfl, hb⟩
    have hB9 : Hid (Below w.heap.size w w9) := (unhide hB8).trans (hb.mono (unhide hB8).size)
    have R2_9 := hide ((unhide R2_8).below hb)
    have R4_9 := hide ((unhide R4_8).below hb)
    clear hb hB8 H3 V3 R3_8 R2_8 R4_8
    have H4 := hide (has_any a4 0 c4 c4 [] (f : Int) w9 (unhide R4_9) (by decide))
    rw [unhide V4] at H4
    go_wp2_with fail
    refine (unhide H4).mono ?_
    rintro e w10 ⟨rfl, hb⟩
    have hB10 : Hid (Below w.heap.size w w10) := (unhide hB9).trans (hb.mono (unhide hB9).size)
    have R2_10 := hide ((unhide R2_9).below hb)
    clear hb hB9 H4 V4 R4_9 R2_9
    have H2 := hide (has_any a2 0 c2 c2 [] (f : Int) w10 (unhide R2_10) (by decide))
    rw [unhide V2] at H2
    go_wp2_with fail
    refine (unhide H2).mono ?_
    rintro e w11 ⟨rfl, hb⟩
    have hB11 : Hid (Below w.heap.size w w11) := (unhide hB10).trans (hb.mono (unhide hB10).size)
    clear hb hB10 H2 V2 R2_10 
    go_wp2_with fail
    go_ret
    first | exact ⟨rfl, unhide hB11⟩ | exact ⟨ret_bl (by simp; omega), unhide hB11⟩
  · have k1 : (n == (f : Int)) = false := by simp; omega
    have k2 : (f : Int) ≤ n := by omega
    have V1 : Hid (has [((f : Int), (f : Int))] n = false) := by show _ = _; exact hasd ⟨rfl, by unfold inRp; simp; try omega⟩
    have V2 : Hid (has [] n = false) := by show _ = _; exact hasd rfl
    have V3 : Hid (has [((f : Int), 0)] n = true) := by show _ = _; exact hasd ⟨rfl, by unfold inRp; simp; try omega⟩
    have V4 : Hid (has [] n = false) := by show _ = _; exact hasd rfl
    clear hn1
    go_enter Tryd.func7, Tryd.ntmps7
    go_wp2_with fail
    refine (alive_any _ (unhide HT)).mono ?_
    rintro e w1 ⟨rfl, hb1⟩
    clear HT
    go_wp2_with fail
    refine (digits_any f _ (by omega)).mono ?_
    rintro e w2 ⟨⟨a, rfl, ha, has⟩, rfl⟩
    have HA := hide ha
    clear ha
    go_wp2_with fail
    refine (digits_any t _ (by omega)).mono ?_
    rintro e w3 ⟨⟨b, rfl, hb, hbs⟩, rfl⟩
    have HB := hide hb
    clear hb
    have P1 := hide (fun w => parse_is w (s := a) (l := [((f : Int), (f : Int))]) (n := 0) (by omega) (by rw [unhide HA]; exact (unhide HC).p1.1) (by rw [unhide HA]; exact (unhide HC).p1.2))
    have P2 := hide (fun w => parse_is w (s := a ++ { data := #[45] } ++ b) (l := []) (n := 5) (by rw [sz2]; omega) (by rw [cat2, unhide HA, unhide HB]; exact (unhide HC).p2.1) (by rw [cat2, unhide HA, unhide HB]; exact (unhide HC).p2.2))
    have P3 := hide (fun w => parse_is w (s := a ++ { data := #[45] }) (l := [((f : Int), 0)]) (n := 0) (by rw [sz3]; omega) (by rw [cat3, unhide HA]; exact (unhide HC).p3.1) (by rw [cat3, unhide HA]; exact (unhide HC).p3.2))
    have P4 := hide (fun w => parse_is w (s := { data := #[45] } ++ b) (l := []) (n := 5) (by rw [sz4]; omega) (by rw [cat4, unhide HB]; exact (unhide HC).p4.1) (by rw [cat4, unhide HB]; exact (unhide HC).p4.2))
    clear HA HB HC
    go_wp2_with fail
    refine (unhide P1 _).mono ?_
    rintro e w4 ⟨a1, c1, rfl, hR, hb⟩
    have R1_4 : Hid (Rg w4 a1 1 c1 [((f : Int), (f : Int))]) := hR
    have hB4 : Hid (Below w.heap.size w w4) := hb1.trans (hb.mono hb1.size)
    clear hb hR P1 hb1
    go_wp2_with fail
    refine (unhide P2 _).mono ?_
    rintro e w5 ⟨a2, c2, rfl, hR, hb⟩
    have R2_5 : Hid (Rg w5 a2 0 c2 []) := hR
    have hB5 : Hid (Below w.heap.size w w5) := (unhide hB4).trans (hb.mono (unhide hB4).size)
    have R1_5 := hide ((unhide R1_4).below hb)
    clear hb hR P2 hB4 R1_4
    go_wp2_with fail
    refine (unhide P3 _).mono ?_
    rintro e w6 ⟨a3, c3, rfl, hR, hb⟩
    have R3_6 : Hid (Rg w6 a3 1 c3 [((f : Int), 0)]) := hR
    have hB6 : Hid (Below w.heap.size w w6) := (unhide hB5).trans (hb.mono (unhide hB5).size)
    have R1_6 := hide ((unhide R1_5).below hb)
    have R2_6 := hide ((unhide R2_5).below hb)
    clear hb hR P3 hB5 R1_5 R2_5
    go_wp2_with fail
    refine (unhide P4 _).mono ?_
    rintro e w7 ⟨a4, c4, rfl, hR, hb⟩
    have R4_7 : Hid (Rg w7 a4 0 c4 []) := hR
    have hB7 : Hid (Below w.heap.size w w7) := (unhide hB6).trans (hb.mono (unhide hB6).size)
    have R1_7 := hide ((unhide R1_6).below hb)
    have R2_7 := hide ((unhide R2_6).below hb)
    have R3_7 := hide ((unhide R3_6).below hb)
    clear hb hR P4 hB6 R1_6 R2_6 R3_6
    have H1 := hide (has_any a1 1 c1 c1 [((f : Int), (f : Int))] n w7 (unhide R1_7) (by decide))
    rw [unhide V1] at H1
    go_wp2_with fail
    refine (unhide H1).mono ?_
    rintro e w8 ⟨rfl, hb⟩
    have hB8 : Hid (Below w.heap.size w w8) := (unhide hB7).trans (hb.mono (unhide hB7).size)
    have R2_8 := hide ((unhide R2_7).below hb)
    have R3_8 := hide ((unhide R3_7).below hb)
    have R4_8 := hide ((unhide R4_7).below hb)
    clear hb hB7 H1 V1 R1_7 R2_7 R3_7 R4_7
    have H3 := hide (has_any a3 1 c3 c3 [((f : Int), 0)] n w8 (unhide R3_8) (by decide))
    rw [unhide V3] at H3
    go_wp2_with fail
    refine (unhide H3).mono ?_
    rintro e w9 ⟨rfl, hb⟩
    have hB9 : Hid (Below w.heap.size w w9) := (unhide hB8).trans (hb.mono (unhide hB8).size)
    have R2_9 := hide ((unhide R2_8).below hb)
    have R4_9 := hide ((unhide R4_8).below hb)
    clear hb hB8 H3 V3 R3_8 R2_8 R4_8
    have H4 := hide (has_any a4 0 c4 c4 [] n w9 (unhide R4_9) (by decide))
    rw [unhide V4] at H4
    go_wp2_with fail
    refine (unhide H4).mono ?_
    rintro e w10 ⟨rfl, hb⟩
    have hB10 : Hid (Below w.heap.size w w10) := (unhide hB9).trans (hb.mono (unhide hB9).size)
    have R2_10 := hide ((unhide R2_9).below hb)
    clear hb hB9 H4 V4 R4_9 R2_9
    have H2 := hide (has_any a2 0 c2 c2 [] n w10 (unhide R2_10) (by decide))
    rw [unhide V2] at H2
    go_wp2_with fail
    refine (unhide H2).mono ?_
    rintro e w11 ⟨rfl, hb⟩
    have hB11 : Hid (Below w.heap.size w w11) := (unhide hB10).trans (hb.mono (unhide hB10).size)
    clear hb hB10 H2 V2 R2_10 
    go_wp2_with fail
    go_ret
    first | exact ⟨rfl, unhide hB11⟩ | exact ⟨ret_bl (by simp; omega), unhide hB11⟩

set_option maxRecDepth 100000 in
set_option maxHeartbeats 800000 in
theorem forms_20 (f t : Nat) (n : Int) (w : World) (hf : (f : Int) ≤ 4294967295) (htt : (t : Int) ≤ 4294967295) (ht : Tab w) (h1 : 2147483647 < (f : Int)) (h3 : (t : Int) < 1) (C : Fm f t [] [] [] [] 5 5 5 5) :
    Calls Tryd.prog 7 #[.int .u32 f, .int .u32 t, .int .i64 n] w fun e w' => e = .returned (.bool true) ∧ Below w.heap.size w w' := by
  have HT := hide ht
  have HC := hide C
  clear ht C
  obtain ⟨a, ha⟩ : ∃ a : ByteArray, a = ⟨(Lib.decDigits f).toArray⟩ := ⟨_, rfl⟩
  have hcase : (True) := by exact trivial
  clear ha a
  have V1 : Hid (has [] n = false) := by show _ = _; exact hasd rfl
  have V2 : Hid (has [] n = false) := by show _ = _; exact hasd rfl
  have V3 : Hid (has [] n = false) := by show _ = _; exact hasd rfl
  have V4 : Hid (has [] n = false) := by show _ = _; exact hasd rfl
  go_enter Tryd.func7, Tryd.ntmps7
  go_wp2_with fail
  refine (alive_any _ (unhide HT)).mono ?_
  rintro e w1 ⟨rfl, hb1⟩
  clear HT
  go_wp2_with fail
  refine (digits_any f _ (by omega)).mono ?_
  rintro e w2 ⟨⟨a, rfl, ha, has⟩, rfl⟩
  have HA := hide ha
  clear ha
  go_wp2_with fail
  refine (digits_any t _ (by omega)).mono ?_
  rintro e w3 ⟨⟨b, rfl, hb, hbs⟩, rfl⟩
  have HB := hide hb
  clear hb
  have P1 := hide (fun w => parse_is w (s := a) (l := []) (n := 5) (by omega) (by rw [unhide HA]; exact (unhide HC).p1.1) (by rw [unhide HA]; exact (unhide HC).p1.2))
  have P2 := hide (fun w => parse_is w (s := a ++ { data := #[45] } ++ b) (l := []) (n := 5) (by rw [sz2]; omega) (by rw [cat2, unhide HA, unhide HB]; exact (unhide HC).p2.1) (by rw [cat2, unhide HA, unhide HB]; exact (unhide HC).p2.2))
  have P3 := hide (fun w => parse_is w (s := a ++ { data := #[45] }) (l := []) (n := 5) (by rw [sz3]; omega) (by rw [cat3, unhide HA]; exact (unhide HC).p3.1) (by rw [cat3, unhide HA]; exact (unhide HC).p3.2))
  have P4 := hide (fun w => parse_is w (s := { data := #[45] } ++ b) (l := []) (n := 5) (by rw [sz4]; omega) (by rw [cat4, unhide HB]; exact (unhide HC).p4.1) (by rw [cat4, unhide HB]; exact (unhide HC).p4.2))
  clear HA HB HC
  go_wp2_with fail
  refine (unhide P1 _).mono ?_
  rintro e w4 ⟨a1, c1, rfl, hR, hb⟩
  have R1_4 : Hid (Rg w4 a1 0 c1 []) := hR
  have hB4 : Hid (Below w.heap.size w w4) := hb1.trans (hb.mono hb1.size)
  clear hb hR P1 hb1
  go_wp2_with fail
  refine (unhide P2 _).mono ?_
  rintro e w5 ⟨a2, c2, rfl, hR, hb⟩
  have R2_5 : Hid (Rg w5 a2 0 c2 []) := hR
  have hB5 : Hid (Below w.heap.size w w5) := (unhide hB4).trans (hb.mono (unhide hB4).size)
  have R1_5 := hide ((unhide R1_4).below hb)
  clear hb hR P2 hB4 R1_4
  go_wp2_with fail
  refine (unhide P3 _).mono ?_
  rintro e w6 ⟨a3, c3, rfl, hR, hb⟩
  have R3_6 : Hid (Rg w6 a3 0 c3 []) := hR
  have hB6 : Hid (Below w.heap.size w w6) := (unhide hB5).trans (hb.mono (unhide hB5).size)
  have R1_6 := hide ((unhide R1_5).below hb)
  have R2_6 := hide ((unhide R2_5).below hb)
  clear hb hR P3 hB5 R1_5 R2_5
  go_wp2_with fail
  refine (unhide P4 _).mono ?_
  rintro e w7 ⟨a4, c4, rfl, hR, hb⟩
  have R4_7 : Hid (Rg w7 a4 0 c4 []) := hR
  have hB7 : Hid (Below w.heap.size w w7) := (unhide hB6).trans (hb.mono (unhide hB6).size)
  have R1_7 := hide ((unhide R1_6).below hb)
  have R2_7 := hide ((unhide R2_6).below hb)
  have R3_7 := hide ((unhide R3_6).below hb)
  clear hb hR P4 hB6 R1_6 R2_6 R3_6
  have H1 := hide (has_any a1 0 c1 c1 [] n w7 (unhide R1_7) (by decide))
  rw [unhide V1] at H1
  go_wp2_with fail
  refine (unhide H1).mono ?_
  rintro e w8 ⟨rfl, hb⟩
  have hB8 : Hid (Below w.heap.size w w8) := (unhide hB7).trans (hb.mono (unhide hB7).size)
  have R2_8 := hide ((unhide R2_7).below hb)
  have R3_8 := hide ((unhide R3_7).below hb)
  have R4_8 := hide ((unhide R4_7).below hb)
  clear hb hB7 H1 V1 R1_7 R2_7 R3_7 R4_7
  have H3 := hide (has_any a3 0 c3 c3 [] n w8 (unhide R3_8) (by decide))
  rw [unhide V3] at H3
  go_wp2_with fail
  refine (unhide H3).mono ?_
  rintro e w9 ⟨rfl, hb⟩
  have hB9 : Hid (Below w.heap.size w w9) := (unhide hB8).trans (hb.mono (unhide hB8).size)
  have R2_9 := hide ((unhide R2_8).below hb)
  have R4_9 := hide ((unhide R4_8).below hb)
  clear hb hB8 H3 V3 R3_8 R2_8 R4_8
  have H4 := hide (has_any a4 0 c4 c4 [] n w9 (unhide R4_9) (by decide))
  rw [unhide V4] at H4
  go_wp2_with fail
  refine (unhide H4).mono ?_
  rintro e w10 ⟨rfl, hb⟩
  have hB10 : Hid (Below w.heap.size w w10) := (unhide hB9).trans (hb.mono (unhide hB9).size)
  have R2_10 := hide ((unhide R2_9).below hb)
  clear hb hB9 H4 V4 R4_9 R2_9
  have H2 := hide (has_any a2 0 c2 c2 [] n w10 (unhide R2_10) (by decide))
  rw [unhide V2] at H2
  go_wp2_with fail
  refine (unhide H2).mono ?_
  rintro e w11 ⟨rfl, hb⟩
  have hB11 : Hid (Below w.heap.size w w11) := (unhide hB10).trans (hb.mono (unhide hB10).size)
  clear hb hB10 H2 V2 R2_10 
  go_wp2_with fail
  go_ret
  first | exact ⟨rfl, unhide hB11⟩ | exact ⟨ret_bl (by simp; omega), unhide hB11⟩

set_option maxRecDepth 100000 in
set_option maxHeartbeats 800000 in
theorem forms_21 (f t : Nat) (n : Int) (w : World) (hf : (f : Int) ≤ 4294967295) (htt : (t : Int) ≤ 4294967295) (ht : Tab w) (h1 : 2147483647 < (f : Int)) (h3 : 1 ≤ (t : Int)) (h4 : (t : Int) ≤ 2147483647) (C : Fm f t [] [] [] [(1, (t : Int))] 5 5 5 0) :
    Calls Tryd.prog 7 #[.int .u32 f, .int .u32 t, .int .i64 n] w fun e w' => e = .returned (.bool true) ∧ Below w.heap.size w w' := by
  have HT := hide ht
  have HC := hide C
  clear ht C
  obtain ⟨a, ha⟩ : ∃ a : ByteArray, a = ⟨(Lib.decDigits f).toArray⟩ := ⟨_, rfl⟩
  have hcase : (n < 1) ∨ (1 ≤ n ∧ n ≤ (t : Int)) ∨ ((t : Int) < n) := by omega
  clear ha a
  rcases hcase with hn1 | ⟨hn1, hn2⟩ | hn1
  · have k3 : ¬ 1 ≤ n := by omega
    have k4 : n ≤ (t : Int) := by omega
    have V1 : Hid (has [] n = false) := by show _ = _; exact hasd rfl
    have V2 : Hid (has [] n = false) := by show _ = _; exact hasd rfl
    have V3 : Hid (has [] n = false) := by show _ = _; exact hasd rfl
    have V4 : Hid (has [(1, (t : Int))] n = false) := by show _ = _; exact hasd ⟨rfl, by unfold inRp; simp; try omega⟩
    clear hn1
    go_enter Tryd.func7, Tryd.ntmps7
    go_wp2_with fail
    refine (alive_any _ (unhide HT)).mono ?_
    rintro e w1 ⟨rfl, hb1⟩
    clear HT
    go_wp2_with fail
    refine (digits_any f _ (by omega)).mono ?_
    rintro e w2 ⟨⟨a, rfl, ha, has⟩, rfl⟩
    have HA := hide ha
    clear ha
    go_wp2_with fail
    refine (digits_any t _ (by omega)).mono ?_
    rintro e w3 ⟨⟨b, rfl, hb, hbs⟩, rfl⟩
    have HB := hide hb
    clear hb
    have P1 := hide (fun w => parse_is w (s := a) (l := []) (n := 5) (by omega) (by rw [unhide HA]; exact (unhide HC).p1.1) (by rw [unhide HA]; exact (unhide HC).p1.2))
    have P2 := hide (fun w => parse_is w (s := a ++ { data := #[45] } ++ b) (l := []) (n := 5) (by rw [sz2]; omega) (by rw [cat2, unhide HA, unhide HB]; exact (unhide HC).p2.1) (by rw [cat2, unhide HA, unhide HB]; exact (unhide HC).p2.2))
    have P3 := hide (fun w => parse_is w (s := a ++ { data := #[45] }) (l := []) (n := 5) (by rw [sz3]; omega) (by rw [cat3, unhide HA]; exact (unhide HC).p3.1) (by rw [cat3, unhide HA]; exact (unhide HC).p3.2))
    have P4 := hide (fun w => parse_is w (s := { data := #[45] } ++ b) (l := [(1, (t : Int))]) (n := 0) (by rw [sz4]; omega) (by rw [cat4, unhide HB]; exact (unhide HC).p4.1) (by rw [cat4, unhide HB]; exact (unhide HC).p4.2))
    clear HA HB HC
    go_wp2_with fail
    refine (unhide P1 _).mono ?_
    rintro e w4 ⟨a1, c1, rfl, hR, hb⟩
    have R1_4 : Hid (Rg w4 a1 0 c1 []) := hR
    have hB4 : Hid (Below w.heap.size w w4) := hb1.trans (hb.mono hb1.size)
    clear hb hR P1 hb1
    go_wp2_with fail
    refine (unhide P2 _).mono ?_
    rintro e w5 ⟨a2, c2, rfl, hR, hb⟩
    have R2_5 : Hid (Rg w5 a2 0 c2 []) := hR
    have hB5 : Hid (Below w.heap.size w w5) := (unhide hB4).trans (hb.mono (unhide hB4).size)
    have R1_5 := hide ((unhide R1_4).below hb)
    clear hb hR P2 hB4 R1_4
    go_wp2_with fail
    refine (unhide P3 _).mono ?_
    rintro e w6 ⟨a3, c3, rfl, hR, hb⟩
    have R3_6 : Hid (Rg w6 a3 0 c3 []) := hR
    have hB6 : Hid (Below w.heap.size w w6) := (unhide hB5).trans (hb.mono (unhide hB5).size)
    have R1_6 := hide ((unhide R1_5).below hb)
    have R2_6 := hide ((unhide R2_5).below hb)
    clear hb hR P3 hB5 R1_5 R2_5
    go_wp2_with fail
    refine (unhide P4 _).mono ?_
    rintro e w7 ⟨a4, c4, rfl, hR, hb⟩
    have R4_7 : Hid (Rg w7 a4 1 c4 [(1, (t : Int))]) := hR
    have hB7 : Hid (Below w.heap.size w w7) := (unhide hB6).trans (hb.mono (unhide hB6).size)
    have R1_7 := hide ((unhide R1_6).below hb)
    have R2_7 := hide ((unhide R2_6).below hb)
    have R3_7 := hide ((unhide R3_6).below hb)
    clear hb hR P4 hB6 R1_6 R2_6 R3_6
    have H1 := hide (has_any a1 0 c1 c1 [] n w7 (unhide R1_7) (by decide))
    rw [unhide V1] at H1
    go_wp2_with fail
    refine (unhide H1).mono ?_
    rintro e w8 ⟨rfl, hb⟩
    have hB8 : Hid (Below w.heap.size w w8) := (unhide hB7).trans (hb.mono (unhide hB7).size)
    have R2_8 := hide ((unhide R2_7).below hb)
    have R3_8 := hide ((unhide R3_7).below hb)
    have R4_8 := hide ((unhide R4_7).below hb)
    clear hb hB7 H1 V1 R1_7 R2_7 R3_7 R4_7
    have H3 := hide (has_any a3 0 c3 c3 [] n w8 (unhide R3_8) (by decide))
    rw [unhide V3] at H3
    go_wp2_with fail
    refine (unhide H3).mono ?_
    rintro e w9 ⟨rfl, hb⟩
    have hB9 : Hid (Below w.heap.size w w9) := (unhide hB8).trans (hb.mono (unhide hB8).size)
    have R2_9 := hide ((unhide R2_8).below hb)
    have R4_9 := hide ((unhide R4_8).below hb)
    clear hb hB8 H3 V3 R3_8 R2_8 R4_8
    have H4 := hide (has_any a4 1 c4 c4 [(1, (t : Int))] n w9 (unhide R4_9) (by decide))
    rw [unhide V4] at H4
    go_wp2_with fail
    refine (unhide H4).mono ?_
    rintro e w10 ⟨rfl, hb⟩
    have hB10 : Hid (Below w.heap.size w w10) := (unhide hB9).trans (hb.mono (unhide hB9).size)
    have R2_10 := hide ((unhide R2_9).below hb)
    clear hb hB9 H4 V4 R4_9 R2_9
    have H2 := hide (has_any a2 0 c2 c2 [] n w10 (unhide R2_10) (by decide))
    rw [unhide V2] at H2
    go_wp2_with fail
    refine (unhide H2).mono ?_
    rintro e w11 ⟨rfl, hb⟩
    have hB11 : Hid (Below w.heap.size w w11) := (unhide hB10).trans (hb.mono (unhide hB10).size)
    clear hb hB10 H2 V2 R2_10 
    go_wp2_with fail
    go_ret
    first | exact ⟨rfl, unhide hB11⟩ | exact ⟨ret_bl (by simp; omega), unhide hB11⟩
  · have k3 : 1 ≤ n := by omega
    have k4 : n ≤ (t : Int) := by omega
    have V1 : Hid (has [] n = false) := by show _ = _; exact hasd rfl
    have V2 : Hid (has [] n = false) := by show _ = _; exact hasd rfl
    have V3 : Hid (has [] n = false) := by show _ = _; exact hasd rfl
    have V4 : Hid (has [(1, (t : Int))] n = true) := by show _ = _; exact hasd ⟨rfl, by unfold inRp; simp; try omega⟩
    clear hn1 hn2
    go_enter Tryd.func7, Tryd.ntmps7
    go_wp2_with fail
    refine (alive_any _ (unhide HT)).mono ?_
    rintro e w1 ⟨rfl, hb1⟩
    clear HT
    go_wp2_with fail
    refine (digits_any f _ (by omega)).mono ?_
    rintro e w2 ⟨⟨a, rfl, ha, has⟩, rfl⟩
    have HA := hide ha
    clear ha
    go_wp2_with fail
    refine (digits_any t _ (by omega)).mono ?_
    rintro e w3 ⟨⟨b, rfl, hb, hbs⟩, rfl⟩
    have HB := hide hb
    clear hb
    have P1 := hide (fun w => parse_is w (s := a) (l := []) (n := 5) (by omega) (by rw [unhide HA]; exact (unhide HC).p1.1) (by rw [unhide HA]; exact (unhide HC).p1.2))
    have P2 := hide (fun w => parse_is w (s := a ++ { data := #[45] } ++ b) (l := []) (n := 5) (by rw [sz2]; omega) (by rw [cat2, unhide HA, unhide HB]; exact (unhide HC).p2.1) (by rw [cat2, unhide HA, unhide HB]; exact (unhide HC).p2.2))
    have P3 := hide (fun w => parse_is w (s := a ++ { data := #[45] }) (l := []) (n := 5) (by rw [sz3]; omega) (by rw [cat3, unhide HA]; exact (unhide HC).p3.1) (by rw [cat3, unhide HA]; exact (unhide HC).p3.2))
    have P4 := hide (fun w => parse_is w (s := { data := #[45] } ++ b) (l := [(1, (t : Int))]) (n := 0) (by rw [sz4]; omega) (by rw [cat4, unhide HB]; exact (unhide HC).p4.1) (by rw [cat4, unhide HB]; exact (unhide HC).p4.2))
    clear HA HB HC
    go_wp2_with fail
    refine (unhide P1 _).mono ?_
    rintro e w4 ⟨a1, c1, rfl, hR, hb⟩
    have R1_4 : Hid (Rg w4 a1 0 c1 []) := hR
    have hB4 : Hid (Below w.heap.size w w4) := hb1.trans (hb.mono hb1.size)
    clear hb hR P1 hb1
    go_wp2_with fail
    refine (unhide P2 _).mono ?_
    rintro e w5 ⟨a2, c2, rfl, hR, hb⟩
    have R2_5 : Hid (Rg w5 a2 0 c2 []) := hR
    have hB5 : Hid (Below w.heap.size w w5) := (unhide hB4).trans (hb.mono (unhide hB4).size)
    have R1_5 := hide ((unhide R1_4).below hb)
    clear hb hR P2 hB4 R1_4
    go_wp2_with fail
    refine (unhide P3 _).mono ?_
    rintro e w6 ⟨a3, c3, rfl, hR, hb⟩
    have R3_6 : Hid (Rg w6 a3 0 c3 []) := hR
    have hB6 : Hid (Below w.heap.size w w6) := (unhide hB5).trans (hb.mono (unhide hB5).size)
    have R1_6 := hide ((unhide R1_5).below hb)
    have R2_6 := hide ((unhide R2_5).below hb)
    clear hb hR P3 hB5 R1_5 R2_5
    go_wp2_with fail
    refine (unhide P4 _).mono ?_
    rintro e w7 ⟨a4, c4, rfl, hR, hb⟩
    have R4_7 : Hid (Rg w7 a4 1 c4 [(1, (t : Int))]) := hR
    have hB7 : Hid (Below w.heap.size w w7) := (unhide hB6).trans (hb.mono (unhide hB6).size)
    have R1_7 := hide ((unhide R1_6).below hb)
    have R2_7 := hide ((unhide R2_6).below hb)
    have R3_7 := hide ((unhide R3_6).below hb)
    clear hb hR P4 hB6 R1_6 R2_6 R3_6
    have H1 := hide (has_any a1 0 c1 c1 [] n w7 (unhide R1_7) (by decide))
    rw [unhide V1] at H1
    go_wp2_with fail
    refine (unhide H1).mono ?_
    rintro e w8 ⟨rfl, hb⟩
    have hB8 : Hid (Below w.heap.size w w8) := (unhide hB7).trans (hb.mono (unhide hB7).size)
    have R2_8 := hide ((unhide R2_7).below hb)
    have R3_8 := hide ((unhide R3_7).below hb)
    have R4_8 := hide ((unhide R4_7).below hb)
    clear hb hB7 H1 V1 R1_7 R2_7 R3_7 R4_7
    have H3 := hide (has_any a3 0 c3 c3 [] n w8 (unhide R3_8) (by decide))
    rw [unhide V3] at H3
    go_wp2_with fail
    refine (unhide H3).mono ?_
    rintro e w9 ⟨rfl, hb⟩
    have hB9 : Hid (Below w.heap.size w w9) := (unhide hB8).trans (hb.mono (unhide hB8).size)
    have R2_9 := hide ((unhide R2_8).below hb)
    have R4_9 := hide ((unhide R4_8).below hb)
    clear hb hB8 H3 V3 R3_8 R2_8 R4_8
    have H4 := hide (has_any a4 1 c4 c4 [(1, (t : Int))] n w9 (unhide R4_9) (by decide))
    rw [unhide V4] at H4
    go_wp2_with fail
    refine (unhide H4).mono ?_
    rintro e w10 ⟨rfl, hb⟩
    have hB10 : Hid (Below w.heap.size w w10) := (unhide hB9).trans (hb.mono (unhide hB9).size)
    have R2_10 := hide ((unhide R2_9).below hb)
    clear hb hB9 H4 V4 R4_9 R2_9
    have H2 := hide (has_any a2 0 c2 c2 [] n w10 (unhide R2_10) (by decide))
    rw [unhide V2] at H2
    go_wp2_with fail
    refine (unhide H2).mono ?_
    rintro e w11 ⟨rfl, hb⟩
    have hB11 : Hid (Below w.heap.size w w11) := (unhide hB10).trans (hb.mono (unhide hB10).size)
    clear hb hB10 H2 V2 R2_10 
    go_wp2_with fail
    go_ret
    first | exact ⟨rfl, unhide hB11⟩ | exact ⟨ret_bl (by simp; omega), unhide hB11⟩
  · have k3 : 1 ≤ n := by omega
    have k4 : ¬ n ≤ (t : Int) := by omega
    have V1 : Hid (has [] n = false) := by show _ = _; exact hasd rfl
    have V2 : Hid (has [] n = false) := by show _ = _; exact hasd rfl
    have V3 : Hid (has [] n = false) := by show _ = _; exact hasd rfl
    have V4 : Hid (has [(1, (t : Int))] n = false) := by show _ = _; exact hasd ⟨rfl, by unfold inRp; simp; try omega⟩
    clear hn1
    go_enter Tryd.func7, Tryd.ntmps7
    go_wp2_with fail
    refine (alive_any _ (unhide HT)).mono ?_
    rintro e w1 ⟨rfl, hb1⟩
    clear HT
    go_wp2_with fail
    refine (digits_any f _ (by omega)).mono ?_
    rintro e w2 ⟨⟨a, rfl, ha, has⟩, rfl⟩
    have HA := hide ha
    clear ha
    go_wp2_with fail
    refine (digits_any t _ (by omega)).mono ?_
    rintro e w3 ⟨⟨b, rfl, hb, hbs⟩, rfl⟩
    have HB := hide hb
    clear hb
    have P1 := hide (fun w => parse_is w (s := a) (l := []) (n := 5) (by omega) (by rw [unhide HA]; exact (unhide HC).p1.1) (by rw [unhide HA]; exact (unhide HC).p1.2))
    have P2 := hide (fun w => parse_is w (s := a ++ { data := #[45] } ++ b) (l := []) (n := 5) (by rw [sz2]; omega) (by rw [cat2, unhide HA, unhide HB]; exact (unhide HC).p2.1) (by rw [cat2, unhide HA, unhide HB]; exact (unhide HC).p2.2))
    have P3 := hide (fun w => parse_is w (s := a ++ { data := #[45] }) (l := []) (n := 5) (by rw [sz3]; omega) (by rw [cat3, unhide HA]; exact (unhide HC).p3.1) (by rw [cat3, unhide HA]; exact (unhide HC).p3.2))
    have P4 := hide (fun w => parse_is w (s := { data := #[45] } ++ b) (l := [(1, (t : Int))]) (n := 0) (by rw [sz4]; omega) (by rw [cat4, unhide HB]; exact (unhide HC).p4.1) (by rw [cat4, unhide HB]; exact (unhide HC).p4.2))
    clear HA HB HC
    go_wp2_with fail
    refine (unhide P1 _).mono ?_
    rintro e w4 ⟨a1, c1, rfl, hR, hb⟩
    have R1_4 : Hid (Rg w4 a1 0 c1 []) := hR
    have hB4 : Hid (Below w.heap.size w w4) := hb1.trans (hb.mono hb1.size)
    clear hb hR P1 hb1
    go_wp2_with fail
    refine (unhide P2 _).mono ?_
    rintro e w5 ⟨a2, c2, rfl, hR, hb⟩
    have R2_5 : Hid (Rg w5 a2 0 c2 []) := hR
    have hB5 : Hid (Below w.heap.size w w5) := (unhide hB4).trans (hb.mono (unhide hB4).size)
    have R1_5 := hide ((unhide R1_4).below hb)
    clear hb hR P2 hB4 R1_4
    go_wp2_with fail
    refine (unhide P3 _).mono ?_
    rintro e w6 ⟨a3, c3, rfl, hR, hb⟩
    have R3_6 : Hid (Rg w6 a3 0 c3 []) := hR
    have hB6 : Hid (Below w.heap.size w w6) := (unhide hB5).trans (hb.mono (unhide hB5).size)
    have R1_6 := hide ((unhide R1_5).below hb)
    have R2_6 := hide ((unhide R2_5).below hb)
    clear hb hR P3 hB5 R1_5 R2_5
    go_wp2_with fail
    refine (unhide P4 _).mono ?_
    rintro e w7 ⟨a4, c4, rfl, hR, hb⟩
    have R4_7 : Hid (Rg w7 a4 1 c4 [(1, (t : Int))]) := hR
    have hB7 : Hid (Below w.heap.size w w7) := (unhide hB6).trans (hb.mono (unhide hB6).size)
    have R1_7 := hide ((unhide R1_6).below hb)
    have R2_7 := hide ((unhide R2_6).below hb)
    have R3_7 := hide ((unhide R3_6).below hb)
    clear hb hR P4 hB6 R1_6 R2_6 R3_6
    have H1 := hide (has_any a1 0 c1 c1 [] n w7 (unhide R1_7) (by decide))
    rw [unhide V1] at H1
    go_wp2_with fail
    refine (unhide H1).mono ?_
    rintro e w8 ⟨rfl, hb⟩
    have hB8 : Hid (Below w.heap.size w w8) := (unhide hB7).trans (hb.mono (unhide hB7).size)
    have R2_8 := hide ((unhide R2_7).below hb)
    have R3_8 := hide ((unhide R3_7).below hb)
    have R4_8 := hide ((unhide R4_7).below hb)
    clear hb hB7 H1 V1 R1_7 R2_7 R3_7 R4_7
    have H3 := hide (has_any a3 0 c3 c3 [] n w8 (unhide R3_8) (by decide))
    rw [unhide V3] at H3
    go_wp2_with fail
    refine (unhide H3).mono ?_
    rintro e w9 ⟨rfl, hb⟩
    have hB9 : Hid (Below w.heap.size w w9) := (unhide hB8).trans (hb.mono (unhide hB8).size)
    have R2_9 := hide ((unhide R2_8).below hb)
    have R4_9 := hide ((unhide R4_8).below hb)
    clear hb hB8 H3 V3 R3_8 R2_8 R4_8
    have H4 := hide (has_any a4 1 c4 c4 [(1, (t : Int))] n w9 (unhide R4_9) (by decide))
    rw [unhide V4] at H4
    go_wp2_with fail
    refine (unhide H4).mono ?_
    rintro e w10 ⟨rfl, hb⟩
    have hB10 : Hid (Below w.heap.size w w10) := (unhide hB9).trans (hb.mono (unhide hB9).size)
    have R2_10 := hide ((unhide R2_9).below hb)
    clear hb hB9 H4 V4 R4_9 R2_9
    have H2 := hide (has_any a2 0 c2 c2 [] n w10 (unhide R2_10) (by decide))
    rw [unhide V2] at H2
    go_wp2_with fail
    refine (unhide H2).mono ?_
    rintro e w11 ⟨rfl, hb⟩
    have hB11 : Hid (Below w.heap.size w w11) := (unhide hB10).trans (hb.mono (unhide hB10).size)
    clear hb hB10 H2 V2 R2_10 
    go_wp2_with fail
    go_ret
    first | exact ⟨rfl, unhide hB11⟩ | exact ⟨ret_bl (by simp; omega), unhide hB11⟩

set_option maxRecDepth 100000 in
set_option maxHeartbeats 800000 in
theorem forms_22 (f t : Nat) (n : Int) (w : World) (hf : (f : Int) ≤ 4294967295) (htt : (t : Int) ≤ 4294967295) (ht : Tab w) (h1 : 2147483647 < (f : Int)) (h3 : 2147483647 < (t : Int)) (C : Fm f t [] [] [] [] 5 5 5 5) :
    Calls Tryd.prog 7 #[.int .u32 f, .int .u32 t, .int .i64 n] w fun e w' => e = .returned (.bool true) ∧ Below w.heap.size w w' := by
  have HT := hide ht
  have HC := hide C
  clear ht C
  obtain ⟨a, ha⟩ : ∃ a : ByteArray, a = ⟨(Lib.decDigits f).toArray⟩ := ⟨_, rfl⟩
  have hcase : (True) := by exact trivial
  clear ha a
  have V1 : Hid (has [] n = false) := by show _ = _; exact hasd rfl
  have V2 : Hid (has [] n = false) := by show _ = _; exact hasd rfl
  have V3 : Hid (has [] n = false) := by show _ = _; exact hasd rfl
  have V4 : Hid (has [] n = false) := by show _ = _; exact hasd rfl
  go_enter Tryd.func7, Tryd.ntmps7
  go_wp2_with fail
  refine (alive_any _ (unhide HT)).mono ?_
  rintro e w1 ⟨rfl, hb1⟩
  clear HT
  go_wp2_with fail
  refine (digits_any f _ (by omega)).mono ?_
  rintro e w2 ⟨⟨a, rfl, ha, has⟩, rfl⟩
  have HA := hide ha
  clear ha
  go_wp2_with fail
  refine (digits_any t _ (by omega)).mono ?_
  rintro e w3 ⟨⟨b, rfl, hb, hbs⟩, rfl⟩
  have HB := hide hb
  clear hb
  have P1 := hide (fun w => parse_is w (s := a) (l := []) (n := 5) (by omega) (by rw [unhide HA]; exact (unhide HC).p1.1) (by rw [unhide HA]; exact (unhide HC).p1.2))
  have P2 := hide (fun w => parse_is w (s := a ++ { data := #[45] } ++ b) (l := []) (n := 5) (by rw [sz2]; omega) (by rw [cat2, unhide HA, unhide HB]; exact (unhide HC).p2.1) (by rw [cat2, unhide HA, unhide HB]; exact (unhide HC).p2.2))
  have P3 := hide (fun w => parse_is w (s := a ++ { data := #[45] }) (l := []) (n := 5) (by rw [sz3]; omega) (by rw [cat3, unhide HA]; exact (unhide HC).p3.1) (by rw [cat3, unhide HA]; exact (unhide HC).p3.2))
  have P4 := hide (fun w => parse_is w (s := { data := #[45] } ++ b) (l := []) (n := 5) (by rw [sz4]; omega) (by rw [cat4, unhide HB]; exact (unhide HC).p4.1) (by rw [cat4, unhide HB]; exact (unhide HC).p4.2))
  clear HA HB HC
  go_wp2_with fail
  refine (unhide P1 _).mono ?_
  rintro e w4 ⟨a1, c1, rfl, hR, hb⟩
  have R1_4 : Hid (Rg w4 a1 0 c1 []) := hR
  have hB4 : Hid (Below w.heap.size w w4) := hb1.trans (hb.mono hb1.size)
  clear hb hR P1 hb1
  go_wp2_with fail
  refine (unhide P2 _).mono ?_
  rintro e w5 ⟨a2, c2, rfl, hR, hb⟩
  have R2_5 : Hid (Rg w5 a2 0 c2 []) := hR
  have hB5 : Hid (Below w.heap.size w w5) := (unhide hB4).trans (hb.mono (unhide hB4).size)
  have R1_5 := hide ((unhide R1_4).below hb)
  clear hb hR P2 hB4 R1_4
  go_wp2_with fail
  refine (unhide P3 _).mono ?_
  rintro e w6 ⟨a3, c3, rfl, hR, hb⟩
  have R3_6 : Hid (Rg w6 a3 0 c3 []) := hR
  have hB6 : Hid (Below w.heap.size w w6) := (unhide hB5).trans (hb.mono (unhide hB5).size)
  have R1_6 := hide ((unhide R1_5).below hb)
  have R2_6 := hide ((unhide R2_5).below hb)
  clear hb hR P3 hB5 R1_5 R2_5
  go_wp2_with fail
  refine (unhide P4 _).mono ?_
  rintro e w7 ⟨a4, c4, rfl, hR, hb⟩
  have R4_7 : Hid (Rg w7 a4 0 c4 []) := hR
  have hB7 : Hid (Below w.heap.size w w7) := (unhide hB6).trans (hb.mono (unhide hB6).size)
  have R1_7 := hide ((unhide R1_6).below hb)
  have R2_7 := hide ((unhide R2_6).below hb)
  have R3_7 := hide ((unhide R3_6).below hb)
  clear hb hR P4 hB6 R1_6 R2_6 R3_6
  have H1 := hide (has_any a1 0 c1 c1 [] n w7 (unhide R1_7) (by decide))
  rw [unhide V1] at H1
  go_wp2_with fail
  refine (unhide H1).mono ?_
  rintro e w8 ⟨rfl, hb⟩
  have hB8 : Hid (Below w.heap.size w w8) := (unhide hB7).trans (hb.mono (unhide hB7).size)
  have R2_8 := hide ((unhide R2_7).below hb)
  have R3_8 := hide ((unhide R3_7).below hb)
  have R4_8 := hide ((unhide R4_7).below hb)
  clear hb hB7 H1 V1 R1_7 R2_7 R3_7 R4_7
  have H3 := hide (has_any a3 0 c3 c3 [] n w8 (unhide R3_8) (by decide))
  rw [unhide V3] at H3
  go_wp2_with fail
  refine (unhide H3).mono ?_
  rintro e w9 ⟨rfl, hb⟩
  have hB9 : Hid (Below w.heap.size w w9) := (unhide hB8).trans (hb.mono (unhide hB8).size)
  have R2_9 := hide ((unhide R2_8).below hb)
  have R4_9 := hide ((unhide R4_8).below hb)
  clear hb hB8 H3 V3 R3_8 R2_8 R4_8
  have H4 := hide (has_any a4 0 c4 c4 [] n w9 (unhide R4_9) (by decide))
  rw [unhide V4] at H4
  go_wp2_with fail
  refine (unhide H4).mono ?_
  rintro e w10 ⟨rfl, hb⟩
  have hB10 : Hid (Below w.heap.size w w10) := (unhide hB9).trans (hb.mono (unhide hB9).size)
  have R2_10 := hide ((unhide R2_9).below hb)
  clear hb hB9 H4 V4 R4_9 R2_9
  have H2 := hide (has_any a2 0 c2 c2 [] n w10 (unhide R2_10) (by decide))
  rw [unhide V2] at H2
  go_wp2_with fail
  refine (unhide H2).mono ?_
  rintro e w11 ⟨rfl, hb⟩
  have hB11 : Hid (Below w.heap.size w w11) := (unhide hB10).trans (hb.mono (unhide hB10).size)
  clear hb hB10 H2 V2 R2_10 
  go_wp2_with fail
  go_ret
  first | exact ⟨rfl, unhide hB11⟩ | exact ⟨ret_bl (by simp; omega), unhide hB11⟩

end Go.Proofs.YtijoemamnkhhnaaDoor.Ls
