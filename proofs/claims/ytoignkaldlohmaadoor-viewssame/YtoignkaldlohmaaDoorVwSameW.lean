/- The law ViewsSame's walk. -/
import Derived.Test.YtoignkaldlohmaaDoorVwAlive
import Derived.Test.YtoignkaldlohmaaDoorLnCPlain
import Derived.Test.YtoignkaldlohmaaDoorBeyond2
set_option linter.unusedVariables false
namespace Go.Proofs.YtoignkaldlohmaaDoor.Vw
open Go.RowKit Go.Shelf Cu
open Pa (Tx tot)

theorem ends_count : ∀ l : Bs, Ln.endsN (Ln.parts Ln.isEnd l) = l.count 10
  | [] => rfl
  | c :: l => by
    rw [Ln.endsN_cons, ends_count l, List.count_cons]
    by_cases h : c.toNat = 10
    · have : c = 10 := UInt8.toNat_inj.1 (by rw [h]; rfl)
      subst this
      simp [Ln.isEnd]; omega
    · have : ¬ c = 10 := fun e => h (by rw [e]; rfl)
      simp [Ln.isEnd, h, this]
theorem cmp_turn (a b : Bs) : cmpP b a = ((cmpP a b).1, (cmpP a b).2.1, (3 - (cmpP a b).2.2) % 3) := by
  unfold cmpP
  rw [alikeN_comm b a, ← alikeN_take a b]
  by_cases h1 : alikeN a b < a.length
  · by_cases h2 : alikeN a b < b.length
    · rw [if_pos ⟨h2, h1⟩, if_pos ⟨h1, h2⟩]; simp
    · rw [if_neg (by omega), if_pos h1, if_neg (by omega), if_neg h2, if_pos h1]; rfl
  · by_cases h2 : alikeN a b < b.length
    · rw [if_neg (by omega), if_neg h1, if_pos h2, if_neg (by omega), if_pos h2]; rfl
    · rw [if_neg (by omega), if_neg h1, if_neg h2, if_neg (by omega), if_neg h2, if_neg h1]; rfl
theorem toList_bs (a : ByteArray) : a.toList = bs a := ByteArray.toList_eq a

set_option maxRecDepth 100000 in
set_option maxHeartbeats 1000000 in
theorem viewsSame_any (a b : ByteArray) (w : World) (ha : a.size ≤ 4611686018427387904) (hb : b.size ≤ 4611686018427387904) (hT : Tz w) :
    Calls Tryd.prog 5 #[.string a, .string b] w fun e w' => e = .returned (.bool true) ∧ Below w.heap.size w w' := by
  have AL : Hid (∀ W, Below w.heap.size w W → Calls Tryd.prog 21 #[] W fun e w' => e = .returned (.bool true) ∧ Below W.heap.size W w') := fun W hW => alive_any W (hT.below hW)
  have hla : (bs a).length = a.size := rfl
  have hlb : (bs b).length = b.size := rfl
  go_enter Tryd.func5, Tryd.ntmps5
  go_wp2_with fail
  refine (unhide AL _ (Below.refl _ _)).mono ?_
  rintro e w1 ⟨rfl, b1⟩
  have B1 := hide b1
  clear b1
  go_wp2_with fail
  refine (Pa.beyond_two (a.size : Int) (b.size : Int) w1.heap.size _ (by simp) (by simp) (by omega) (by omega) (by omega) (by omega)).mono ?_
  rintro e w' ⟨rfl, rfl⟩
  have B2 : Hid (Below w.heap.size w (w1.alloc (.cells #[.int .i64 a.size, .int .i64 b.size] 3))) := (unhide B1).alloc (unhide B1).size _
  generalize w1.alloc (.cells #[.int .i64 a.size, .int .i64 b.size] 3) = w2 at *
  clear B1
  by_cases hlt : 1048576 < (a.size : Int) + (b.size : Int)
  · go_wp2_with fail
    refine (unhide AL _ (unhide B2)).mono ?_
    rintro e w3 ⟨rfl, b3⟩
    have B3 := hide ((unhide B2).trans (b3.mono (unhide B2).size))
    clear b3 B2
    go_wp2_with fail
    go_ret
    exact ⟨rfl, unhide B3⟩
  have H1 := fun W => cmp_any a b W (by omega) (by omega)
  have H2 := fun W => cmp_any b a W (by omega) (by omega)
  obtain ⟨n1, n2⟩ := alikeN_le (bs a) (bs b)
  have htk := alikeN_take (bs a) (bs b)
  have hat := alikeN_at (bs a) (bs b)
  rw [hla] at n1; rw [hlb] at n2
  by_cases h1 : alikeN (bs a) (bs b) < a.size
  · by_cases h2 : alikeN (bs a) (bs b) < b.size
    · have hp : cmpP (bs a) (bs b) = (alikeN (bs a) (bs b) + 1, ((bs a).take (alikeN (bs a) (bs b))).count 10 + 1, 0) := by unfold cmpP; rw [hla, hlb, if_pos ⟨h1, h2⟩]
      have hq := cmp_turn (bs a) (bs b)
      rw [hp] at hq
      rw [hp] at H1
      rw [hq] at H2
      have hne := hat h1 h2
      have hcl := count_le (bs a) (alikeN (bs a) (bs b))
      have hab : Hid ((a.toList == b.toList) = false) := by
        show _ = _
        rw [toList_bs, toList_bs, beq_eq_false_iff_ne]
        intro e
        apply hne
        simp only [e]
      have hxe : ((a.extract 0 (alikeN (bs a) (bs b))).toList == (b.extract 0 (alikeN (bs a) (bs b))).toList) = true := by
        rw [toList_bs, toList_bs, bs_to, bs_to, htk]; exact beq_self_eq_true _
      have hCt : Hid (∀ W, Calls Tryd.prog 23 #[.string (a.extract 0 (alikeN (bs a) (bs b)))] W fun e w' => e = .returned (Ln.countAns (a.extract 0 (alikeN (bs a) (bs b)))) ∧ Below W.heap.size W w') := fun W => Ln.count_any _ W (by rw [← bs_len, bs_to, List.length_take, bs_len]; omega)
      unfold Ln.countAns at hCt
      rw [show (a.extract 0 (alikeN (bs a) (bs b))).data.toList = (bs a).take (alikeN (bs a) (bs b)) from bs_to _ _, ends_count] at hCt
      have hne' : ¬ ((a[alikeN (bs a) (bs b)]'h1).toNat : Int) = ((b[alikeN (bs a) (bs b)]'h2).toNat : Int) := fun e => hne (u8_eq e)
      generalize alikeN (bs a) (bs b) = n at *
      generalize ((bs a).take n).count 10 = c at *
      simp only [cmpV] at H1 H2
      have e1 : ((n + 1 : Nat) : Int) = (n : Int) + 1 := by omega
      have e2 : ((c + 1 : Nat) : Int) = (c : Int) + 1 := by omega
      simp only [e1, e2] at H1 H2
      have H1 := hide H1
      have H2 := hide H2
      have habu := unhide hab
      have hw1 : IntKind.i64.wrap ((n : Int) + 1 - 1) = (n : Int) := by simp [IntKind.wrap, IntKind.signed, IntKind.bits]; omega
      have hw2 : IntKind.i64.wrap (n : Int) = (n : Int) := by simp [IntKind.wrap, IntKind.signed, IntKind.bits]; omega
      have hw3 : wrap64 (n : Int) = (n : Int) := by unfold wrap64; omega
      have hw4 : wrap64 ((n : Int) + 1 - 1) = (n : Int) := by unfold wrap64; omega
      have g1 : ¬ (a.size : Int) < (n : Int) + 1 := by omega
      have g2 : ¬ (b.size : Int) < (n : Int) + 1 := by omega
      have g3 : (n : Int) < (a.size : Int) := by omega
      have g4 : (n : Int) < (b.size : Int) := by omega
      have g5 : ¬ (n : Int) + 1 = 0 := by omega
      have g6 : (0 : Int) ≤ (n : Int) := by omega
      clear hp hq hne hat htk e1 e2
      go_wp2_with fail
      refine (unhide H1 _).mono ?_
      rintro e w3 ⟨rfl, b3⟩
      have B3 := hide ((unhide B2).trans (b3.mono (unhide B2).size))
      clear b3 B2 H1
      go_wp2_with fail
      refine (unhide H2 _).mono ?_
      rintro e w4 ⟨rfl, b4⟩
      have B4 := hide ((unhide B3).trans (b4.mono (unhide B3).size))
      clear b4 B3 H2
      go_wp2_with fail
      have hd1 : decide ((a.size : Int) < (n : Int) + 1) = false := by simp; omega
      have hd2 : decide ((b.size : Int) < (n : Int) + 1) = false := by simp; omega
      have hd3 : (((a[n]'h1).toNat : Int) == ((b[n]'h2).toNat : Int)) = false := by rw [beq_eq_false_iff_ne]; exact hne'
      go_quiet (fail)
      rename_i nq
      go_wp2_with fail
      refine (unhide hCt _).mono ?_
      rintro e w5 ⟨rfl, b5⟩
      have B5 := hide ((below_drewN (unhide B4) nq).trans (b5.mono (below_drewN (unhide B4) nq).size))
      clear b5 B4 hCt
      go_wp2_with fail
      go_ret
      exact ⟨by simp, unhide B5⟩
    · have hp : cmpP (bs a) (bs b) = (0, 0, 2) := by unfold cmpP; rw [hla, hlb, if_neg (by omega), if_neg h2, if_pos h1]
      have hq := cmp_turn (bs a) (bs b)
      rw [hp] at hq
      rw [hp] at H1
      rw [hq] at H2
      have hm : min (a.size : Int) (b.size : Int) = (alikeN (bs a) (bs b) : Int) := by omega
      have hn : alikeN (bs a) (bs b) = b.size := by omega
      have hab : Hid ((a.toList == b.toList) = false) := by
        show _ = _
        rw [toList_bs, toList_bs, beq_eq_false_iff_ne]
        intro e
        have := congrArg List.length e
        omega
      have hxe : ((a.extract 0 (alikeN (bs a) (bs b))).toList == (b.extract 0 (alikeN (bs a) (bs b))).toList) = true := by
        rw [toList_bs, toList_bs, bs_to, bs_to, htk]; exact beq_self_eq_true _
      simp only [cmpV] at H1 H2
      have H1 := hide H1
      have H2 := hide H2
      have habu := unhide hab
      clear hp hq hat htk
      generalize alikeN (bs a) (bs b) = n at *
      have hw2 : IntKind.i64.wrap (n : Int) = (n : Int) := by simp [IntKind.wrap, IntKind.signed, IntKind.bits]; omega
      have hw3 : wrap64 (n : Int) = (n : Int) := by unfold wrap64; omega
      have g3 : (n : Int) ≤ (a.size : Int) := by omega
      have g4 : (n : Int) ≤ (b.size : Int) := by omega
      have g6 : (0 : Int) ≤ (n : Int) := by omega
      clear hn
      go_wp2_with fail
      refine (unhide H1 _).mono ?_
      rintro e w3 ⟨rfl, b3⟩
      have B3 := hide ((unhide B2).trans (b3.mono (unhide B2).size))
      clear b3 B2 H1
      go_wp2_with fail
      refine (unhide H2 _).mono ?_
      rintro e w4 ⟨rfl, b4⟩
      have B4 := hide ((unhide B3).trans (b4.mono (unhide B3).size))
      clear b4 B3 H2
      go_wp2_with fail
      have hd1 : decide (a.size < b.size) = false := by simp; omega
      have hd2 : decide (b.size < a.size) = true := by simp; omega
      go_quiet (fail)
      rename_i nq
      go_wp2_with fail
      go_ret
      exact ⟨rfl, below_drewN (unhide B4) _⟩
  · by_cases h2 : alikeN (bs a) (bs b) < b.size
    · have hp : cmpP (bs a) (bs b) = (0, 0, 1) := by unfold cmpP; rw [hla, hlb, if_neg (by omega), if_pos h2]
      have hq := cmp_turn (bs a) (bs b)
      rw [hp] at hq
      rw [hp] at H1
      rw [hq] at H2
      have hm : min (a.size : Int) (b.size : Int) = (alikeN (bs a) (bs b) : Int) := by omega
      have hn : alikeN (bs a) (bs b) = a.size := by omega
      have hab : Hid ((a.toList == b.toList) = false) := by
        show _ = _
        rw [toList_bs, toList_bs, beq_eq_false_iff_ne]
        intro e
        have := congrArg List.length e
        omega
      have hxe : ((a.extract 0 (alikeN (bs a) (bs b))).toList == (b.extract 0 (alikeN (bs a) (bs b))).toList) = true := by
        rw [toList_bs, toList_bs, bs_to, bs_to, htk]; exact beq_self_eq_true _
      simp only [cmpV] at H1 H2
      have H1 := hide H1
      have H2 := hide H2
      have habu := unhide hab
      clear hp hq hat htk
      generalize alikeN (bs a) (bs b) = n at *
      have hw2 : IntKind.i64.wrap (n : Int) = (n : Int) := by simp [IntKind.wrap, IntKind.signed, IntKind.bits]; omega
      have hw3 : wrap64 (n : Int) = (n : Int) := by unfold wrap64; omega
      have g3 : (n : Int) ≤ (a.size : Int) := by omega
      have g4 : (n : Int) ≤ (b.size : Int) := by omega
      have g6 : (0 : Int) ≤ (n : Int) := by omega
      clear hn
      go_wp2_with fail
      refine (unhide H1 _).mono ?_
      rintro e w3 ⟨rfl, b3⟩
      have B3 := hide ((unhide B2).trans (b3.mono (unhide B2).size))
      clear b3 B2 H1
      go_wp2_with fail
      refine (unhide H2 _).mono ?_
      rintro e w4 ⟨rfl, b4⟩
      have B4 := hide ((unhide B3).trans (b4.mono (unhide B3).size))
      clear b4 B3 H2
      go_wp2_with fail
      have hd1 : decide (a.size < b.size) = true := by simp; omega
      have hd2 : decide (b.size < a.size) = false := by simp; omega
      go_quiet (fail)
      rename_i nq
      go_wp2_with fail
      go_ret
      exact ⟨rfl, below_drewN (unhide B4) _⟩
    · have hp : cmpP (bs a) (bs b) = (0, 0, 0) := by unfold cmpP; rw [hla, hlb, if_neg (by omega), if_neg h2, if_neg h1]
      have hq := cmp_turn (bs a) (bs b)
      rw [hp] at hq
      rw [hp] at H1
      rw [hq] at H2
      have hm : min (a.size : Int) (b.size : Int) = (alikeN (bs a) (bs b) : Int) := by omega
      have hn : alikeN (bs a) (bs b) = a.size := by omega
      have hsz : a.size = b.size := by omega
      have hab : Hid ((a.toList == b.toList) = true) := by
        show _ = _
        rw [toList_bs, toList_bs, beq_iff_eq]
        have e1 : (bs a).take (alikeN (bs a) (bs b)) = bs a := List.take_of_length_le (by omega)
        have e2 : (bs b).take (alikeN (bs a) (bs b)) = bs b := List.take_of_length_le (by omega)
        rw [e1, e2] at htk; exact htk
      have hxe : ((a.extract 0 (alikeN (bs a) (bs b))).toList == (b.extract 0 (alikeN (bs a) (bs b))).toList) = true := by
        rw [toList_bs, toList_bs, bs_to, bs_to, htk]; exact beq_self_eq_true _
      simp only [cmpV] at H1 H2
      have H1 := hide H1
      have H2 := hide H2
      have habu := unhide hab
      clear hp hq hat htk
      generalize alikeN (bs a) (bs b) = n at *
      have hw2 : IntKind.i64.wrap (n : Int) = (n : Int) := by simp [IntKind.wrap, IntKind.signed, IntKind.bits]; omega
      have hw3 : wrap64 (n : Int) = (n : Int) := by unfold wrap64; omega
      have g3 : (n : Int) ≤ (a.size : Int) := by omega
      have g4 : (n : Int) ≤ (b.size : Int) := by omega
      have g6 : (0 : Int) ≤ (n : Int) := by omega
      clear hn hsz
      go_wp2_with fail
      refine (unhide H1 _).mono ?_
      rintro e w3 ⟨rfl, b3⟩
      have B3 := hide ((unhide B2).trans (b3.mono (unhide B2).size))
      clear b3 B2 H1
      go_wp2_with fail
      refine (unhide H2 _).mono ?_
      rintro e w4 ⟨rfl, b4⟩
      have B4 := hide ((unhide B3).trans (b4.mono (unhide B3).size))
      clear b4 B3 H2
      go_wp2_with fail
      have hd1 : decide (a.size < b.size) = false := by simp; omega
      have hd2 : decide (b.size < a.size) = false := by simp; omega
      go_quiet (fail)
      rename_i nq
      go_wp2_with fail
      go_ret
      exact ⟨rfl, below_drewN (unhide B4) _⟩
end Go.Proofs.YtoignkaldlohmaaDoor.Vw
