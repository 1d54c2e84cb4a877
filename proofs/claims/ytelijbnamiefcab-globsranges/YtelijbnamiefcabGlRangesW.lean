/- GlobsRanges answers true at every three bytes. -/
import Derived.Test.YtelijbnamiefcabGlMet
import Derived.Test.YtelijbnamiefcabGlU8
namespace Go.Proofs.Ytelijbnamiefcab.Gl
open Go.RowKit

theorem cv_lit (l : Bs) (w : World) (C : Array Value) (h : C = (Lib.byteCells l).toArray) (n : Nat) (hn : n = l.length) : (convert 23 9 (.slice (some ⟨w.heap.size, 0, none⟩) n n)).run Try.prog (w.alloc (.cells C 5)) = .ok (.string ⟨l.toArray⟩) (w.alloc (.cells C 5)) := by
  subst h hn
  refine run_convert_bytes_back _ 23 9 5 ⟨w.heap.size, 0, none⟩ l.length l Try.underlying23 Try.underlying5 Try.underlying9 ?_
  intro j hj
  have e : (⟨w.heap.size, 0, none⟩ : Addr).add j = ⟨w.heap.size, j, none⟩ := by unfold Addr.add; split <;> simp_all
  rw [e, cell_of_row _ _ _ _ _ _ (heap_alloc_new w _)]
  simp [Lib.byteCells, List.getElem?_eq_getElem hj]
theorem idx93 (b : UInt8) (h : b ≠ 93) : ([45, b, 93] : Bs).idxOf 93 = 2 := by
  have h1 : (b == 93) = false := by simpa using h
  simp [List.idxOf_cons, h1]
theorem kind_in (a b : UInt8) (ha : a ≠ 33) (hb : b ≠ 93) : kindP [91, a, 45, b, 93] = (3, 5) := by
  have hb1 : brk [91, a, 45, b, 93] = 5 := by
    unfold brk
    have hu : unbang (([91, a, 45, b, 93] : Bs).drop 1) = [a, 45, b, 93] := by simp [unbang, bang, ha]
    rw [hu]
    simp only [idx93 b hb]
    rfl
  simp [kindP, hb1]
theorem kind_out (a b : UInt8) (hb : b ≠ 93) : kindP [91, 33, a, 45, b, 93] = (3, 6) := by
  have hb1 : brk [91, 33, a, 45, b, 93] = 6 := by
    unfold brk
    have hu : unbang (([91, 33, a, 45, b, 93] : Bs).drop 1) = [a, 45, b, 93] := by simp [unbang, bang]
    rw [hu]
    simp only [idx93 b hb]
    rfl
  simp [kindP, hb1]
theorem rdA_in (a b : UInt8) (ha : a ≠ 33) (hb : b ≠ 93) : rdA [91, a, 45, b, 93] = some [⟨false, bt a b⟩] := by
  rw [rdA_cons _ (by simp), kind_in a b ha hb]
  have ht : thP 3 [91, a, 45, b, 93] = ⟨false, bt a b⟩ := by
    unfold thP
    congr 1
    funext c
    simp [predP, withinP, unbang, bang, ha, ins]
  show (if 5 < 5 then none else (rdA []).map (thP 3 [91, a, 45, b, 93] :: ·)) = _
  rw [ht]; rfl
theorem rdA_out (a b : UInt8) (hb : b ≠ 93) : rdA [91, 33, a, 45, b, 93] = some [⟨false, fun c => !bt a b c⟩] := by
  rw [rdA_cons _ (by simp), kind_out a b hb]
  have ht : thP 3 [91, 33, a, 45, b, 93] = ⟨false, fun c => !bt a b c⟩ := by
    unfold thP
    congr 1
    funext c
    simp [predP, withinP, unbang, bang, ins]
  show (if 6 < 6 then none else (rdA []).map (thP 3 [91, 33, a, 45, b, 93] :: ·)) = _
  rw [ht]; rfl
set_option maxHeartbeats 1000000 in
set_option maxRecDepth 100000 in
theorem globsRanges_any (a b c : UInt8) (w : World) :
    Calls Try.prog 3 #[.int .u8 a.toNat, .int .u8 b.toNat, .int .u8 c.toNat] w fun e w' => e = .returned (.bool true) ∧ Below w.heap.size w w' := by
  have HA := hide alive_any
  by_cases hbad : a = 93 ∨ b = 93 ∨ a = 33
  · by_cases x1 : a = 93
    · have y1 : (a.toNat : Int) = 93 := by rw [x1]; rfl
      clear x1 hbad
      go_enter Try.func3, Try.ntmps3
      go_wp2_with fail
      refine (unhide HA _).mono ?_
      rintro e w1 ⟨rfl, b1⟩
      go_wp2_with fail
      refine (unhide HA _).mono ?_
      rintro e w2 ⟨rfl, c2⟩
      go_wp2_with fail
      go_ret
      exact ⟨rfl, b1.trans (c2.mono b1.size)⟩
    · have y1 : ¬ (a.toNat : Int) = 93 := fun e => x1 (u8_eq e)
      by_cases x2 : b = 93
      · have y2 : (b.toNat : Int) = 93 := by rw [x2]; rfl
        clear x1 x2 hbad
        go_enter Try.func3, Try.ntmps3
        go_wp2_with fail
        refine (unhide HA _).mono ?_
        rintro e w1 ⟨rfl, b1⟩
        go_wp2_with fail
        refine (unhide HA _).mono ?_
        rintro e w2 ⟨rfl, c2⟩
        go_wp2_with fail
        go_ret
        exact ⟨rfl, b1.trans (c2.mono b1.size)⟩
      · have y2 : ¬ (b.toNat : Int) = 93 := fun e => x2 (u8_eq e)
        have x3 : a = 33 := by
          rcases hbad with h | h | h
          · exact absurd h x1
          · exact absurd h x2
          · exact h
        have y3 : (a.toNat : Int) = 33 := by rw [x3]; rfl
        clear x1 x2 x3 hbad y1
        go_enter Try.func3, Try.ntmps3
        go_wp2_with fail
        refine (unhide HA _).mono ?_
        rintro e w1 ⟨rfl, b1⟩
        go_wp2_with fail
        refine (unhide HA _).mono ?_
        rintro e w2 ⟨rfl, c2⟩
        go_wp2_with fail
        go_ret
        exact ⟨rfl, b1.trans (c2.mono b1.size)⟩
  · have ha93 : a ≠ 93 := fun e => hbad (.inl e)
    have hb93 : b ≠ 93 := fun e => hbad (.inr (.inl e))
    have ha33 : a ≠ 33 := fun e => hbad (.inr (.inr e))
    have n1 : ((a.toNat : Int) == 93) = false := by rw [beq_eq_false_iff_ne]; exact fun e => ha93 (u8_eq e)
    have n2 : ((b.toNat : Int) == 93) = false := by rw [beq_eq_false_iff_ne]; exact fun e => hb93 (u8_eq e)
    have n3 : ((a.toNat : Int) == 33) = false := by rw [beq_eq_false_iff_ne]; exact fun e => ha33 (u8_eq e)
    obtain ⟨I, hI⟩ : ∃ I : ByteArray, I = ⟨([a, 45, b, 93] : Bs).toArray⟩ := ⟨_, rfl⟩
    obtain ⟨s, hs⟩ : ∃ s : ByteArray, s = ⟨([c] : Bs).toArray⟩ := ⟨_, rfl⟩
    have hcv4 : ∀ W : World, (convert 23 9 (.slice (some ⟨W.heap.size, 0, none⟩) 4 4)).run Try.prog (W.alloc (.cells #[.int .u8 (a.toNat : Int), .int .u8 45, .int .u8 (b.toNat : Int), .int .u8 93] 5)) = .ok (.string I) (W.alloc (.cells #[.int .u8 (a.toNat : Int), .int .u8 45, .int .u8 (b.toNat : Int), .int .u8 93] 5)) := fun W => by rw [hI]; exact cv_lit [a, 45, b, 93] W _ rfl 4 rfl
    have hcv1 : ∀ W : World, (convert 23 9 (.slice (some ⟨W.heap.size, 0, none⟩) 1 1)).run Try.prog (W.alloc (.cells #[.int .u8 (c.toNat : Int)] 5)) = .ok (.string s) (W.alloc (.cells #[.int .u8 (c.toNat : Int)] 5)) := fun W => by rw [hs]; exact cv_lit [c] W _ rfl 1 rfl
    have hcv2 : ∀ (W : World) (o : Obj), (convert 23 9 (.slice (some ⟨W.heap.size + 1, 0, none⟩) 1 1)).run Try.prog ((W.alloc o).alloc (.cells #[.int .u8 (c.toNat : Int)] 5)) = .ok (.string s) ((W.alloc o).alloc (.cells #[.int .u8 (c.toNat : Int)] 5)) := fun W o => by
      have h := hcv1 (W.alloc o)
      rw [World.size_alloc] at h
      exact h
    have hI4 : I.size = 4 := by rw [hI]; rfl
    have hs1 : s.size = 1 := by rw [hs]; rfl
    have e1 : bs (({ data := #[91] } : ByteArray) ++ I) = [91, a, 45, b, 93] := by rw [bs_app, hI]; rfl
    have e2 : bs (({ data := #[91, 33] } : ByteArray) ++ I) = [91, 33, a, 45, b, 93] := by rw [bs_app, hI]; rfl
    have e3 : bs s = [c] := by rw [hs]
    have e4 : bs (s ++ s) = [c, c] := by rw [bs_app, e3]; rfl
    have z1 : (({ data := #[91] } : ByteArray) ++ I).size = 5 := by rw [← bs_len, e1]; rfl
    have z2 : (({ data := #[91, 33] } : ByteArray) ++ I).size = 6 := by rw [← bs_len, e2]; rfl
    have M1 := hide (fun W => match_below (({ data := #[91] } : ByteArray) ++ I) s (bt a b c) W (by rw [z1]; decide) (by rw [hs1]; decide) (by rw [e1, e3, match_small _ (by simp) (rdA_in a b ha33 hb93), mt_one_cons rfl]; simp [mt]))
    have M2 := hide (fun W => match_below (({ data := #[91, 33] } : ByteArray) ++ I) s (!bt a b c) W (by rw [z2]; decide) (by rw [hs1]; decide) (by rw [e2, e3, match_small _ (by simp) (rdA_out a b hb93), mt_one_cons rfl]; simp [mt]))
    have M3 := hide (fun W => match_below (({ data := #[91] } : ByteArray) ++ I) { data := #[] } false W (by rw [z1]; decide) (by decide) (by rw [e1, match_small _ (by simp) (rdA_in a b ha33 hb93)]; rfl))
    have M4 := hide (fun W => match_below (({ data := #[91] } : ByteArray) ++ I) (s ++ s) false W (by rw [z1]; decide) (by rw [size_app, hs1]; decide) (by rw [e1, e4, match_small _ (by simp) (rdA_in a b ha33 hb93), mt_one_cons rfl]; simp [mt]))
    have hbt := bt_int a b c
    have c1 : ¬ 9223372036854775807 < 1 + I.size := by omega
    have c2 : ¬ 9223372036854775807 < 2 + I.size := by omega
    have c3 : ¬ 9223372036854775807 < s.size + s.size := by omega
    clear hI hs e1 e2 e3 e4 z1 z2 ha93 hb93 ha33 hbad hI4 hs1
    obtain ⟨r, hr⟩ : ∃ r, r = bt a b c := ⟨_, rfl⟩
    rw [← hr] at M1 M2 hbt
    clear hr
    have HBT := hide hbt
    clear hbt
    by_cases h1 : (a.toNat : Int) ≤ (c.toNat : Int)
    · by_cases h2 : (c.toNat : Int) ≤ (b.toNat : Int)
      · obtain rfl : true = r := by rw [unhide HBT, decide_eq_true h1, decide_eq_true h2]; rfl
        clear HBT
        go_enter Try.func3, Try.ntmps3
        go_wp2_with fail
        refine (unhide HA _).mono ?_
        rintro e w1 ⟨rfl, b1⟩
        go_wp2_with fail
        refine (unhide M1 _).mono ?_
        rintro e w2 ⟨rfl, c2⟩
        have b2 := ((b1.alloc b1.size _).alloc (by have := b1.size; simp; omega) _).trans (c2.mono (by have := b1.size; simp; omega))
        clear c2 b1
        go_wp2_with fail
        refine (unhide M2 _).mono ?_
        rintro e w3 ⟨rfl, c3⟩
        have b3 := b2.trans (c3.mono b2.size)
        clear c3 b2
        go_wp2_with fail
        refine (unhide M3 _).mono ?_
        rintro e w4 ⟨rfl, c4⟩
        have b4 := b3.trans (c4.mono b3.size)
        clear c4 b3
        go_wp2_with fail
        refine (unhide M4 _).mono ?_
        rintro e w5 ⟨rfl, c5⟩
        have b5 := b4.trans (c5.mono b4.size)
        clear c5 b4
        go_wp2_with fail
        go_ret
        refine ⟨congrArg (fun b => Ending.returned (.bool b)) ?_, b5⟩
        first | rfl | (simp; omega)
      · obtain rfl : false = r := by rw [unhide HBT, decide_eq_true h1, decide_eq_false h2]; rfl
        clear HBT
        go_enter Try.func3, Try.ntmps3
        go_wp2_with fail
        refine (unhide HA _).mono ?_
        rintro e w1 ⟨rfl, b1⟩
        go_wp2_with fail
        refine (unhide M1 _).mono ?_
        rintro e w2 ⟨rfl, c2⟩
        have b2 := ((b1.alloc b1.size _).alloc (by have := b1.size; simp; omega) _).trans (c2.mono (by have := b1.size; simp; omega))
        clear c2 b1
        go_wp2_with fail
        refine (unhide M2 _).mono ?_
        rintro e w3 ⟨rfl, c3⟩
        have b3 := b2.trans (c3.mono b2.size)
        clear c3 b2
        go_wp2_with fail
        refine (unhide M3 _).mono ?_
        rintro e w4 ⟨rfl, c4⟩
        have b4 := b3.trans (c4.mono b3.size)
        clear c4 b3
        go_wp2_with fail
        refine (unhide M4 _).mono ?_
        rintro e w5 ⟨rfl, c5⟩
        have b5 := b4.trans (c5.mono b4.size)
        clear c5 b4
        go_wp2_with fail
        go_ret
        refine ⟨congrArg (fun b => Ending.returned (.bool b)) ?_, b5⟩
        first | rfl | (simp; omega)
    · obtain rfl : false = r := by rw [unhide HBT, decide_eq_false h1]; rfl
      clear HBT
      go_enter Try.func3, Try.ntmps3
      go_wp2_with fail
      refine (unhide HA _).mono ?_
      rintro e w1 ⟨rfl, b1⟩
      go_wp2_with fail
      refine (unhide M1 _).mono ?_
      rintro e w2 ⟨rfl, c2⟩
      have b2 := ((b1.alloc b1.size _).alloc (by have := b1.size; simp; omega) _).trans (c2.mono (by have := b1.size; simp; omega))
      clear c2 b1
      go_wp2_with fail
      refine (unhide M2 _).mono ?_
      rintro e w3 ⟨rfl, c3⟩
      have b3 := b2.trans (c3.mono b2.size)
      clear c3 b2
      go_wp2_with fail
      refine (unhide M3 _).mono ?_
      rintro e w4 ⟨rfl, c4⟩
      have b4 := b3.trans (c4.mono b3.size)
      clear c4 b3
      go_wp2_with fail
      refine (unhide M4 _).mono ?_
      rintro e w5 ⟨rfl, c5⟩
      have b5 := b4.trans (c5.mono b4.size)
      clear c5 b4
      go_wp2_with fail
      go_ret
      refine ⟨congrArg (fun b => Ending.returned (.bool b)) ?_, b5⟩
      first | rfl | (simp; omega)
end Go.Proofs.Ytelijbnamiefcab.Gl
