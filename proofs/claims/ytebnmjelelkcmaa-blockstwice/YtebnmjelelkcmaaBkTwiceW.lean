/- BlocksTwice, walked. -/
import Derived.Test.YtebnmjelelkcmaaBkIs
set_option linter.unusedVariables false
namespace Go.Proofs.Ytebnmjelelkcmaa.Bk
open Go.RowKit Go.Shelf Cu

theorem lo_up (c : UInt8) : loC (upC c) = loC c := by
  by_cases h : 97 ≤ (c.toNat : Int) ∧ (c.toNat : Int) ≤ 122
  · have h1 := upC_yes c h.1 h.2
    have h2 := loC_yes (upC c) (by omega) (by omega)
    have h3 : loC c = c := loC_no c (by omega)
    rw [h3]
    exact UInt8.toNat_inj.1 (by omega)
  · rw [upC_no c h]
/-- what each of the plans makes of a text -/
theorem twice_ans (x : Nat) (hx : x < 65536) (sw up lo : Bool) (g : Bs → Bs) (hul : up = false ∨ lo = false) (hg : ∀ (b : Bs), bec ⟨(x : Int) + 1, 7, 0, -1, 0, false, sw, up, lo, false⟩ b = g b) (hgl : ∀ b, (g b).length = b.length) (s : Bs) (hs : s.length ≤ 50000) :
    ∃ a b c d, runP ⟨(x : Int) + 1, 7, 0, -1, 0, false, sw, up, lo, false⟩ s [] = ⟨((ch (x + 1) s).map g).flatten, a, b, c, d, 0⟩ := by
  have hok : okP ⟨(x : Int) + 1, 7, 0, -1, 0, false, sw, up, lo, false⟩ = true := (okP_iff _).2 ⟨⟨by dsimp only; omega, by dsimp only; omega⟩, ⟨by simp, by simp⟩, ⟨by simp, by simp⟩, ⟨by simp, by simp⟩, hul⟩
  have hw := went_le2 ⟨(x : Int) + 1, 7, 0, -1, 0, false, sw, up, lo, false⟩ s (by dsimp only; omega)
  have hn : ((x : Int) + 1).toNat = x + 1 := by omega
  have ht : tkn ⟨(x : Int) + 1, 7, 0, -1, 0, false, sw, up, lo, false⟩ s = ch (x + 1) s := by
    unfold tkn
    rw [takeC_neg, Int.zero_mul]
    simp [hn]
  have hgo : went ⟨(x : Int) + 1, 7, 0, -1, 0, false, sw, up, lo, false⟩ (ch (x + 1) s) = ((ch (x + 1) s).map g).flatten := by
    unfold went
    rw [show bec ⟨(x : Int) + 1, 7, 0, -1, 0, false, sw, up, lo, false⟩ = g from funext hg]
  rw [runP_ok _ _ _ hok (by omega) (by simp) (by dsimp only at hw ⊢; rw [Int.zero_mul]; omega), put_zero _ _ _ rfl, ht, hgo]
  simp only [Bool.false_eq_true, if_false, List.append_nil]
  exact ⟨_, _, _, _, rfl⟩
theorem flat_len (l : List Bs) (g : Bs → Bs) (hg : ∀ b, (g b).length = b.length) : ((l.map g).flatten).length = l.flatten.length := by
  induction l with
  | nil => rfl
  | cons a l ih => simp [hg]; simpa using ih
theorem flat_map (f : UInt8 → UInt8) (n : Nat) (hn : 1 ≤ n) (s : Bs) : ((ch n s).map (List.map f)).flatten = s.map f := by
  rw [← List.map_flatten, ch_flat n hn _ s (Nat.le_refl _)]
/-- all five answers -/
theorem twice_all (x : Nat) (hx : x < 65536) (s : ByteArray) (hs : s.size ≤ 50000) : ∃ A C X : ByteArray, A.size = s.size ∧ C.size = s.size ∧ X.size = s.size ∧
    (∃ a b c d, runP ⟨(x : Int) + 1, 7, 0, -1, 0, false, true, false, false, false⟩ (bs s) [] = ⟨bs A, a, b, c, d, 0⟩) ∧
    (∃ a b c d, runP ⟨(x : Int) + 1, 7, 0, -1, 0, false, true, false, false, false⟩ (bs A) [] = ⟨bs s, a, b, c, d, 0⟩) ∧
    (∃ a b c d, runP ⟨(x : Int) + 1, 7, 0, -1, 0, false, false, true, false, false⟩ (bs s) [] = ⟨bs C, a, b, c, d, 0⟩) ∧
    (∃ a b c d, runP ⟨(x : Int) + 1, 7, 0, -1, 0, false, false, false, true, false⟩ (bs C) [] = ⟨bs X, a, b, c, d, 0⟩) ∧
    (∃ a b c d, runP ⟨(x : Int) + 1, 7, 0, -1, 0, false, false, false, true, false⟩ (bs s) [] = ⟨bs X, a, b, c, d, 0⟩) := by
  have hn : 1 ≤ x + 1 := by omega
  have hsl : (bs s).length ≤ 50000 := by rw [bs_len]; exact hs
  have e1 : ((ch (x + 1) ((ch (x + 1) (bs s)).map swabP).flatten).map swabP).flatten = bs s := by
    rw [ch_map (x + 1) hn swabP swab_len _ (bs s) (Nat.le_refl _), List.map_map, show swabP ∘ swabP = id from funext swab_swab, List.map_id, ch_flat (x + 1) hn _ _ (Nat.le_refl _)]
  have l1 : (((ch (x + 1) (bs s)).map swabP).flatten).length = s.size := by rw [flat_len _ _ swab_len, ch_flat (x + 1) hn _ _ (Nat.le_refl _), bs_len]
  have r1 := twice_ans x hx true false false swabP (.inl rfl) (fun b => by simp [bec, b1P, b2P, b3P, b4P]) swab_len (bs s) hsl
  have r2 := twice_ans x hx true false false swabP (.inl rfl) (fun b => by simp [bec, b1P, b2P, b3P, b4P]) swab_len ((ch (x + 1) (bs s)).map swabP).flatten (by rw [l1]; exact hs)
  rw [e1] at r2
  have r3 := twice_ans x hx false true false (List.map upC) (.inr rfl) (fun b => by simp [bec, b1P, b2P, b3P, b4P]) (fun b => by simp) (bs s) hsl
  rw [flat_map upC _ hn] at r3
  have r4 := twice_ans x hx false false true (List.map loC) (.inl rfl) (fun b => by simp [bec, b1P, b2P, b3P, b4P]) (fun b => by simp) ((bs s).map upC) (by rw [List.length_map]; exact hsl)
  rw [flat_map loC _ hn, List.map_map, show loC ∘ upC = loC from funext lo_up] at r4
  have r5 := twice_ans x hx false false true (List.map loC) (.inl rfl) (fun b => by simp [bec, b1P, b2P, b3P, b4P]) (fun b => by simp) (bs s) hsl
  rw [flat_map loC _ hn] at r5
  exact ⟨bt ((ch (x + 1) (bs s)).map swabP).flatten, bt ((bs s).map upC), bt ((bs s).map loC), l1, by show ((bs s).map upC).length = _; simp, by show ((bs s).map loC).length = _; simp, r1, r2, r3, r4, r5⟩
set_option maxRecDepth 100000 in
set_option maxHeartbeats 1000000 in
theorem twice_walk (s : ByteArray) (x : Nat) (hx : x < 65536) (w : World) (hs : s.size ≤ 9223372036854775807) :
    Calls Try.prog 7 #[.string s, .int .u16 (x : Int)] w fun e w' => e = .returned (.bool true) ∧ Below w.heap.size w w' := by
  have A := hide alive_any
  by_cases hl : 50000 < s.size
  · have h1' : (50000 : Int) < (s.size : Int) := by omega
    clear hl
    go_enter Try.func7, Try.ntmps7
    go_wp2_with fail
    refine (unhide A _).mono ?_
    rintro e w1 ⟨rfl, hb1⟩
    have HB1 := hide hb1
    clear hb1
    go_wp2_with fail
    refine (unhide A _).mono ?_
    rintro e w2 ⟨rfl, hb2⟩
    have HB2 : Hid (Below w.heap.size w w2) := (unhide HB1).trans (hb2.mono (unhide HB1).size)
    clear hb2 A
    go_wp2_with fail
    go_ret
    exact ⟨rfl, unhide HB2⟩
  · have h1' : ¬ (50000 : Int) < (s.size : Int) := by omega
    obtain ⟨X1, X3, X5, z1, z3, z5, ⟨a0, a1, a2, a3, r1⟩, ⟨b0, b1, b2, b3, r2⟩, ⟨c0, c1, c2, c3, r3⟩, ⟨e0, e1, e2, e3, r4⟩, ⟨f0, f1, f2, f3, r5⟩⟩ := twice_all x hx s (by omega)
    have R1 := hide (run_is _ s ⟨#[]⟩ X1 r1)
    have R2 := hide (run_is _ X1 ⟨#[]⟩ s r2)
    have R3 := hide (run_is _ s ⟨#[]⟩ X3 r3)
    have R4 := hide (run_is _ X3 ⟨#[]⟩ X5 r4)
    have R5 := hide (run_is _ s ⟨#[]⟩ X5 r5)
    unfold plC at R1 R2 R3 R4 R5
    clear hl r1 r2 r3 r4 r5
    go_enter Try.func7, Try.ntmps7
    go_wp2_with fail
    refine (unhide A _).mono ?_
    rintro e w1 ⟨rfl, hb1⟩
    have HB1 := hide hb1
    have HKw : Hid (w.heap.size ≤ w1.heap.size) := hb1.size
    clear hb1 A
    go_wp2_with fail
    refine (unhide R1 _).mono ?_
    rintro e ua ⟨rfl, hbua⟩
    have HPua : Hid (ua.heap[w1.heap.size]? = some (PlO ⟨(x : Int) + 1, 7, 0, -1, 0, false, true, false, false, false⟩)) := pl_keep (heap_alloc_new w1 _) hbua
    have hzua : w1.heap.size < ua.heap.size := heap_lt (unhide HPua)
    have HBua : Hid (Below w.heap.size w ua) := ((unhide HB1).alloc (unhide HB1).size _).trans (hbua.mono (Nat.le_trans (unhide HB1).size (by simp)))
    clear hbua
    have hfua : ∀ j, ua.frozen? ⟨w1.heap.size, j, none⟩ = false := Lib.frozen_of_heap (unhide HPua)
    obtain ⟨d0, d1, d2, d3, d4, d5, d6, d7, d8, d9⟩ := pl_cells (unhide HPua)
    go_wp2_with fail
    refine (unhide R2 _).mono ?_
    rintro e ub ⟨rfl, hbub⟩
    have HPub : Hid (ub.heap[w1.heap.size]? = some (PlO ⟨(x : Int) + 1, 7, 0, -1, 0, false, true, false, false, false⟩)) := pl_keep (p := ⟨(x : Int) + 1, 7, 0, -1, 0, false, true, false, false, false⟩) ((Below.heap_alloc _ _ _ (by first | exact hzua | (simp; exact hzua))).trans (unhide HPua)) hbub
    have hzub : w1.heap.size < ub.heap.size := heap_lt (unhide HPub)
    have HBub : Hid (Below w.heap.size w ub) := ((unhide HBua).alloc (unhide HBua).size _).trans (hbub.mono (by have h9 := (unhide HBua).size; simp; omega))
    clear hbub d0 d1 d2 d3 d4 d5 d6 d7 d8 d9 hfua hzua HPua
    have hfub : ∀ j, ub.frozen? ⟨w1.heap.size, j, none⟩ = false := Lib.frozen_of_heap (unhide HPub)
    obtain ⟨d0, d1, d2, d3, d4, d5, d6, d7, d8, d9⟩ := pl_cells (unhide HPub)
    go_wp2_with fail
    refine (unhide R3 _).mono ?_
    rintro e uc ⟨rfl, hbuc⟩
    have HPuc : Hid (uc.heap[w1.heap.size]? = some (PlO ⟨(x : Int) + 1, 7, 0, -1, 0, false, false, true, false, false⟩)) := pl_keep (p := ⟨(x : Int) + 1, 7, 0, -1, 0, false, false, true, false, false⟩) ((Below.heap_alloc _ _ _ (by first | exact hzub | (simp; exact hzub))).trans (heap_setCell_same _ _ 7 _ _ _ (heap_setCell_same _ _ 6 _ _ _ (unhide HPub)))) hbuc
    have hzuc : w1.heap.size < uc.heap.size := heap_lt (unhide HPuc)
    have HBuc : Hid (Below w.heap.size w uc) := ((((unhide HBub).setCell (p := ⟨w1.heap.size, 6, none⟩) (unhide HKw) _).setCell (p := ⟨w1.heap.size, 7, none⟩) (unhide HKw) _).alloc (((unhide HBub).setCell (p := ⟨w1.heap.size, 6, none⟩) (unhide HKw) _).setCell (p := ⟨w1.heap.size, 7, none⟩) (unhide HKw) _).size _).trans (hbuc.mono (by have h9 := (unhide HBub).size; simp; omega))
    clear hbuc d0 d1 d2 d3 d4 d5 d6 d7 d8 d9 hfub hzub HPub
    have hfuc : ∀ j, uc.frozen? ⟨w1.heap.size, j, none⟩ = false := Lib.frozen_of_heap (unhide HPuc)
    obtain ⟨d0, d1, d2, d3, d4, d5, d6, d7, d8, d9⟩ := pl_cells (unhide HPuc)
    go_wp2_with fail
    refine (unhide R4 _).mono ?_
    rintro e ud ⟨rfl, hbud⟩
    have HPud : Hid (ud.heap[w1.heap.size]? = some (PlO ⟨(x : Int) + 1, 7, 0, -1, 0, false, false, false, true, false⟩)) := pl_keep (p := ⟨(x : Int) + 1, 7, 0, -1, 0, false, false, false, true, false⟩) ((Below.heap_alloc _ _ _ (by first | exact hzuc | (simp; exact hzuc))).trans (heap_setCell_same _ _ 8 _ _ _ (heap_setCell_same _ _ 7 _ _ _ (unhide HPuc)))) hbud
    have hzud : w1.heap.size < ud.heap.size := heap_lt (unhide HPud)
    have HBud : Hid (Below w.heap.size w ud) := ((((unhide HBuc).setCell (p := ⟨w1.heap.size, 7, none⟩) (unhide HKw) _).setCell (p := ⟨w1.heap.size, 8, none⟩) (unhide HKw) _).alloc (((unhide HBuc).setCell (p := ⟨w1.heap.size, 7, none⟩) (unhide HKw) _).setCell (p := ⟨w1.heap.size, 8, none⟩) (unhide HKw) _).size _).trans (hbud.mono (by have h9 := (unhide HBuc).size; simp; omega))
    clear hbud d0 d1 d2 d3 d4 d5 d6 d7 d8 d9 hfuc hzuc HPuc
    have hfud : ∀ j, ud.frozen? ⟨w1.heap.size, j, none⟩ = false := Lib.frozen_of_heap (unhide HPud)
    obtain ⟨d0, d1, d2, d3, d4, d5, d6, d7, d8, d9⟩ := pl_cells (unhide HPud)
    go_wp2_with fail
    refine (unhide R5 _).mono ?_
    rintro e ue ⟨rfl, hbue⟩
    have HPue : Hid (ue.heap[w1.heap.size]? = some (PlO ⟨(x : Int) + 1, 7, 0, -1, 0, false, false, false, true, false⟩)) := pl_keep (p := ⟨(x : Int) + 1, 7, 0, -1, 0, false, false, false, true, false⟩) ((Below.heap_alloc _ _ _ (by first | exact hzud | (simp; exact hzud))).trans (unhide HPud)) hbue
    have hzue : w1.heap.size < ue.heap.size := heap_lt (unhide HPue)
    have HBue : Hid (Below w.heap.size w ue) := ((unhide HBud).alloc (unhide HBud).size _).trans (hbue.mono (by have h9 := (unhide HBud).size; simp; omega))
    clear hbue d0 d1 d2 d3 d4 d5 d6 d7 d8 d9 hfud hzud HPud
    have HB9 := hide ((unhide HBue).alloc (unhide HBue).size (.cells #[.int .i64 (f0 : Int), .int .i64 (f1 : Int), .int .i64 (f2 : Int), .int .i64 (f3 : Int)] 26))
    go_wp2_with fail
    go_ret
    exact ⟨rfl, unhide HB9⟩
end Go.Proofs.Ytebnmjelelkcmaa.Bk
