/- What digits answers: digits that are the number. -/
import Derived.Test.YtjnlpllibpmclaaAlive
namespace Go.Proofs.Ytjnlpllibpmclaa.NumWalks
open Go.RowKit Plain

def ten : ByteArray := { data := #[48, 49, 50, 51, 52, 53, 54, 55, 56, 57] }
theorem ten_at (d : Nat) (h : d < 10) : (ten.extract d (d + 1)).data.toList = [UInt8.ofNat (48 + d)] := by
  match d, h with
  | 0, _ => decide +kernel
  | 1, _ => decide +kernel
  | 2, _ => decide +kernel
  | 3, _ => decide +kernel
  | 4, _ => decide +kernel
  | 5, _ => decide +kernel
  | 6, _ => decide +kernel
  | 7, _ => decide +kernel
  | 8, _ => decide +kernel
  | 9, _ => decide +kernel

theorem cat_list (a b : ByteArray) : (a ++ b).data.toList = a.data.toList ++ b.data.toList := by simp

theorem fold_from (l : List UInt8) (v : Int) : l.foldl (fun v c => v * 10 + ((c.toNat : Int) - 48)) v = v * 10 ^ l.length + nval l := by
  induction l generalizing v with
  | nil => simp [nval]
  | cons c l ih =>
    have h1 := ih (v * 10 + ((c.toNat : Int) - 48))
    have h2 := ih ((0 : Int) * 10 + ((c.toNat : Int) - 48))
    simp only [nval, List.foldl_cons, List.length_cons] at *
    rw [h1, h2, Int.pow_succ, Int.add_mul]
    simp only [Int.zero_mul, Int.zero_add]
    rw [Int.mul_assoc, Int.mul_comm 10 (10 ^ l.length), Int.add_assoc]
theorem nval_cons (c : UInt8) (l : List UInt8) : nval (c :: l) = ((c.toNat : Int) - 48) * 10 ^ l.length + nval l := by
  have := fold_from l ((0 : Int) * 10 + ((c.toNat : Int) - 48))
  simp only [nval, List.foldl_cons] at *
  rw [this]
  simp

/-- what holds between the rounds: m is what is left, t the digits behind it -/
def Dg (n m : Nat) (l : List UInt8) : Prop :=
  l.all dig = true ∧ ((m / 10 : Nat) : Int) * 10 ^ l.length + nval l = (n : Int) ∧ 1 ≤ l.length ∧ m * 10 ^ (l.length - 1) ≤ n

theorem ofNat_toNat (d : Nat) (h : d < 10) : (UInt8.ofNat (48 + d)).toNat = 48 + d := by
  simp; omega

theorem Dg.start (n : Nat) : Dg n n [UInt8.ofNat (48 + n % 10)] := by
  have e := ofNat_toNat (n % 10) (by omega)
  refine ⟨?_, ?_, by simp, by simp⟩
  · simp only [List.all_cons, List.all_nil, dig, e]; simp; omega
  · simp only [nval, List.foldl_cons, List.foldl_nil, e, List.length_cons, List.length_nil]; omega

theorem Dg.step {n m : Nat} {l : List UInt8} (h : Dg n m l) : Dg n (m / 10) (UInt8.ofNat (48 + m / 10 % 10) :: l) := by
  obtain ⟨h1, h2, h3, h4⟩ := h
  have e := ofNat_toNat (m / 10 % 10) (by omega)
  refine ⟨?_, ?_, by simp, ?_⟩
  · rw [List.all_cons, h1]; simp only [dig, e]; simp; omega
  · rw [nval_cons, e, List.length_cons, Int.pow_succ]
    have hd : ((m / 10 : Nat) : Int) = ((m / 10 / 10 : Nat) : Int) * 10 + ((m / 10 % 10 : Nat) : Int) := by omega
    have e3 : (((48 + m / 10 % 10 : Nat) : Int) - 48) = ((m / 10 % 10 : Nat) : Int) := by omega
    rw [e3, ← h2, hd, Int.add_mul]
    rw [Int.mul_assoc, Int.mul_comm 10 (10 ^ l.length), ← Int.add_assoc]
  · simp only [List.length_cons, Nat.add_sub_cancel]
    obtain ⟨k, hk⟩ : ∃ k, l.length = k + 1 := ⟨l.length - 1, by omega⟩
    rw [hk] at h4 ⊢
    simp only [Nat.add_sub_cancel] at h4
    rw [Nat.pow_succ]
    calc m / 10 * (10 ^ k * 10) = (m / 10 * 10) * 10 ^ k := by rw [Nat.mul_comm (10 ^ k), Nat.mul_assoc]
      _ ≤ m * 10 ^ k := Nat.mul_le_mul_right _ (by omega)
      _ ≤ n := h4

theorem Dg.len {n m : Nat} {l : List UInt8} (h : Dg n m l) (hm : 1 ≤ m) (hn : n < 18446744073709551616) : l.length ≤ 20 := by
  obtain ⟨h1, h2, h3, h4⟩ := h
  by_cases hl : l.length ≤ 20
  · exact hl
  · exfalso
    have h5 : 10 ^ 20 ≤ 10 ^ (l.length - 1) := Nat.pow_le_pow_right (by omega) (by omega)
    have h6 : 10 ^ (l.length - 1) ≤ m * 10 ^ (l.length - 1) := Nat.le_mul_of_pos_left _ hm
    omega

def IsNum (s : ByteArray) (n : Int) : Prop := s.data.toList.all dig = true ∧ nval s.data.toList = n ∧ 1 ≤ s.size

set_option maxHeartbeats 400000 in
theorem digits_any (n : Nat) (w : World) (h : n < 18446744073709551616) :
    Calls Try.prog 18 #[.int .u64 n] w fun e w' => (∃ s : ByteArray, e = .returned (.string s) ∧ IsNum s n ∧ s.size ≤ 20) ∧ w' = w := by
  have h1 : (n : Int) ≤ 18446744073709551615 := by omega
  go_enter Try.func18, Try.ntmps18
  go_wp2
  go_loop [0, 3] (fun v s => ∃ (m : Nat) (t : ByteArray), m ≤ n ∧ v = .int .u64 m ∧ s = .string t ∧ t.size ≤ 20 ∧ Hid (Dg n m t.data.toList)) (fun v _ => (intOf v).toNat)
  case atStart =>
    refine ⟨n, _, Nat.le_refl _, rfl, rfl, ?_, ?_⟩
    · have := congrArg List.length (ten_at (n % 10) (by omega))
      have e : (ten.extract (n % 10) (n % 10 + 1)).data.toList.length = (ten.extract (n % 10) (n % 10 + 1)).size := rfl
      rw [e] at this
      simp only [List.length_cons, List.length_nil] at this
      show (ten.extract (n % 10) (n % 10 + 1)).size ≤ 20
      omega
    · show Dg n n (ten.extract (n % 10) (n % 10 + 1)).data.toList
      rw [ten_at (n % 10) (by omega)]
      exact Dg.start n
  case round =>
    obtain ⟨m, t, hmn, rfl, rfl, hts, hD⟩ := hrel
    by_cases hm : 10 ≤ (m : Int)
    · have hst := (unhide hD).step
      have hcat : (ten.extract (m / 10 % 10) (m / 10 % 10 + 1) ++ t).data.toList = UInt8.ofNat (48 + m / 10 % 10) :: t.data.toList := by
        rw [cat_list, ten_at (m / 10 % 10) (by omega)]; rfl
      have hlen := hst.len (by omega) h
      have hsz : (ten.extract (m / 10 % 10) (m / 10 % 10 + 1) ++ t).size ≤ 20 := by
        have e : (ten.extract (m / 10 % 10) (m / 10 % 10 + 1) ++ t).data.toList.length = (ten.extract (m / 10 % 10) (m / 10 % 10 + 1) ++ t).size := rfl
        rw [← e, hcat]; exact hlen
      have HS : Hid (Dg n (m / 10) (ten.extract (m / 10 % 10) (m / 10 % 10 + 1) ++ t).data.toList) := by rw [hcat]; exact hst
      have HZ := hide hsz
      clear hst hcat hlen hsz
      go_wp2
      go_round
      case rel => exact ⟨m / 10, _, by omega, by go_num, rfl, unhide HZ, HS⟩
      case measure => simp [intOf]; omega
    · go_wp2
      go_ret
      obtain ⟨g1, g2, g3, g4⟩ := unhide hD
      refine ⟨⟨t, rfl, ⟨g1, ?_, g3⟩, hts⟩, rfl⟩
      have : m / 10 = 0 := by omega
      rw [this] at g2
      simpa using g2

/-! ### a number's digits, with noughts and a sign ahead -/
theorem size_len (s : ByteArray) : s.data.toList.length = s.size := rfl
theorem head_dig (s : ByteArray) (h : s.data.toList.all dig = true) (h1 : 1 ≤ s.size) : ∃ c l, s.data.toList = c :: l ∧ dig c = true := by
  cases hl : s.data.toList with
  | nil => have := size_len s; rw [hl] at this; simp at this; omega
  | cons c l => rw [hl] at h; simp at h; exact ⟨c, l, rfl, h.1⟩
theorem digs_dig (s : ByteArray) (h : s.data.toList.all dig = true) (h1 : 1 ≤ s.size) : digs s.data.toList = s.data.toList ∧ neg s.data.toList = false := by
  obtain ⟨c, l, e, hc⟩ := head_dig s h h1
  simp [dig] at hc
  rw [e]
  exact ⟨by simp only [digs]; rw [if_neg (by omega)], by simp only [neg]; exact decide_eq_false (by omega)⟩
theorem ok_dig (s : ByteArray) (h : s.data.toList.all dig = true) (h1 : 1 ≤ s.size) : okD s.data.toList = decide (s.size ≤ 18) := by
  unfold okD
  rw [h, size_len]
  simp [h1]
theorem ans_plain (s : ByteArray) (h : s.data.toList.all dig = true) (h1 : 1 ≤ s.size) (n : Int) (hn : nval s.data.toList = n) (h18 : s.size ≤ 18) : numAns s = .tuple #[.int .i64 n, .bool true] := by
  obtain ⟨d1, d2⟩ := digs_dig s h h1
  simp only [numAns, numV, numB, d1, d2, ok_dig s h h1, h18, hn]
  rfl
theorem ans_plain_no (s : ByteArray) (h : s.data.toList.all dig = true) (h1 : 1 ≤ s.size) (h18 : ¬ s.size ≤ 18) : numAns s = .tuple #[.int .i64 0, .bool false] := by
  obtain ⟨d1, d2⟩ := digs_dig s h h1
  simp only [numAns, numV, numB, d1, d2, ok_dig s h h1, h18]
  rfl
theorem ans_plus (s : ByteArray) (h : s.data.toList.all dig = true) (h1 : 1 ≤ s.size) (n : Int) (hn : nval s.data.toList = n) (h18 : s.size ≤ 18) : numAns ({ data := #[43] } ++ s) = .tuple #[.int .i64 n, .bool true] := by
  have e : (({ data := #[43] } : ByteArray) ++ s).data.toList = 43 :: s.data.toList := by rw [cat_list]; rfl
  have e1 : digs (43 :: s.data.toList) = s.data.toList := rfl
  have e2 : neg (43 :: s.data.toList) = false := rfl
  simp only [numAns, numV, numB, e, e1, e2, ok_dig s h h1, h18, hn]
  rfl
theorem ans_plus_no (s : ByteArray) (h : s.data.toList.all dig = true) (h1 : 1 ≤ s.size) (h18 : ¬ s.size ≤ 18) : numAns ({ data := #[43] } ++ s) = .tuple #[.int .i64 0, .bool false] := by
  have e : (({ data := #[43] } : ByteArray) ++ s).data.toList = 43 :: s.data.toList := by rw [cat_list]; rfl
  have e1 : digs (43 :: s.data.toList) = s.data.toList := rfl
  simp only [numAns, numV, numB, e, e1, ok_dig s h h1, h18]
  rfl
theorem ans_minus (s : ByteArray) (h : s.data.toList.all dig = true) (h1 : 1 ≤ s.size) (n : Int) (hn : nval s.data.toList = n) (h18 : s.size ≤ 18) : numAns ({ data := #[45] } ++ s) = .tuple #[.int .i64 (-n), .bool true] := by
  have e : (({ data := #[45] } : ByteArray) ++ s).data.toList = 45 :: s.data.toList := by rw [cat_list]; rfl
  have e1 : digs (45 :: s.data.toList) = s.data.toList := rfl
  have e2 : neg (45 :: s.data.toList) = true := rfl
  simp only [numAns, numV, numB, e, e1, e2, ok_dig s h h1, h18, hn]
  rfl
theorem ans_minus_no (s : ByteArray) (h : s.data.toList.all dig = true) (h1 : 1 ≤ s.size) (h18 : ¬ s.size ≤ 18) : numAns ({ data := #[45] } ++ s) = .tuple #[.int .i64 0, .bool false] := by
  have e : (({ data := #[45] } : ByteArray) ++ s).data.toList = 45 :: s.data.toList := by rw [cat_list]; rfl
  have e1 : digs (45 :: s.data.toList) = s.data.toList := rfl
  simp only [numAns, numV, numB, e, e1, ok_dig s h h1, h18]
  rfl
theorem ans_empty (s : ByteArray) : numAns ({ data := #[] } ++ s) = numAns s := by
  have e : (({ data := #[] } : ByteArray) ++ s).data.toList = s.data.toList := by rw [cat_list]; rfl
  simp only [numAns, e]
theorem number_is (s : ByteArray) (v : Value) (w : World) (hs : s.size ≤ maxLen) (he : numAns s = v) : Calls Try.prog 19 #[.string s] w fun e w' => e = .returned v ∧ w' = w := he ▸ number_any s w hs
theorem cat_size (a b : ByteArray) : (a ++ b).size = a.size + b.size := by rw [← size_len, cat_list, List.length_append, size_len, size_len]
theorem nought (s : ByteArray) (n : Int) (h : s.data.toList.all dig = true) (hn : nval s.data.toList = n) : ({ data := #[48] } ++ s : ByteArray).data.toList.all dig = true ∧ nval ({ data := #[48] } ++ s : ByteArray).data.toList = n ∧ ({ data := #[48] } ++ s : ByteArray).size = s.size + 1 := by
  have e : (({ data := #[48] } : ByteArray) ++ s).data.toList = 48 :: s.data.toList := by rw [cat_list]; rfl
  refine ⟨?_, ?_, ?_⟩
  · rw [e, List.all_cons, h]; rfl
  · rw [e, nval_cons, hn]; simp
  · rw [← size_len, e, ← size_len]; rfl

set_option maxHeartbeats 1000000 in
set_option maxRecDepth 100000 in
theorem law_digits (n : Nat) (nu sg : Int) (w : World) (h : n < 18446744073709551616) (hn0 : 0 ≤ nu) (hn1 : nu ≤ 255) (hs0 : 0 ≤ sg) (hs1 : sg ≤ 255) :
    Calls Try.prog 8 #[.int .u64 n, .int .u8 nu, .int .u8 sg] w fun e w' => e = .returned (.bool true) ∧ Below w.heap.size w w' := by
  have h1 : (n : Int) ≤ 18446744073709551615 := by omega
  have hr0 : 0 ≤ nu % 20 := by omega
  have hr1 : nu % 20 < 20 := by omega
  go_enter Try.func8, Try.ntmps8
  go_wp2_with fail
  refine (digits_any n _ h).mono ?_
  rintro e w1 ⟨⟨t, rfl, ht, hts⟩, rfl⟩
  have HT := hide ht
  clear ht
  go_wp2_with fail
  go_loop [7, 8] (fun s i => ∃ (k : Nat) (t2 : ByteArray), (k : Int) ≤ nu % 20 ∧ i = .int .i64 k ∧ s = .string t2 ∧ t2.size ≤ 20 + k ∧ Hid (IsNum t2 n)) (fun _ i => (nu % 20 - intOf i).toNat)
  case atStart => exact ⟨0, t, by omega, rfl, rfl, by omega, HT⟩
  case round =>
    obtain ⟨k, t2, hk, rfl, rfl, hts2, hN⟩ := hrel
    by_cases hlt : (k : Int) < nu % 20
    · obtain ⟨g1, g2, g3⟩ := unhide hN
      obtain ⟨e1, e2, e3⟩ := nought t2 n g1 g2
      have HN' : Hid (IsNum ({ data := #[48] } ++ t2) n) := ⟨e1, e2, by omega⟩
      have HZ := hide e3
      clear g1 g2 g3 e1 e2 e3 hN
      go_wp2_with fail
      go_round
      case rel => exact ⟨k + 1, _, by omega, by go_num, rfl, by rw [unhide HZ]; omega, HN'⟩
      case measure => simp [intOf]; omega
    · obtain ⟨g1, g2, g3⟩ := unhide hN
      have G := hide g1
      have G2 := hide g2
      clear g1 g2 hN HT
      by_cases hf : (t2.size : Int) ≤ 18
      · have hnv := nval_lt t2.data.toList (unhide G) 18 (by rw [size_len]; omega)
        rw [unhide G2] at hnv
        simp only [Int.reducePow] at hnv
        rcases (show sg % 3 = 0 ∨ sg % 3 = 1 ∨ sg % 3 = 2 from by omega) with h3 | h3 | h3
        · have ha := hide ((ans_empty t2).trans (ans_plain t2 (unhide G) g3 n (unhide G2) (by omega)))
          go_wp2_with fail
          refine (number_is _ _ _ (by rw [cat_size]; have : ({ data := #[] } : ByteArray).size ≤ 1 := by decide
                                      unfold maxLen; omega) (unhide ha)).mono ?_
          rintro e w2 ⟨rfl, hw2⟩
          have hb2 : Below w1.heap.size w1 w2 := by rw [hw2]; exact (Below.refl _ _).alloc (Nat.le_refl _) _
          clear hw2
          go_wp2_with fail
          refine (Pa.alive_any _).mono ?_
          rintro e w3 ⟨rfl, hb3⟩
          go_wp2_with fail
          go_ret
          exact ⟨rfl, hb2.trans (hb3.mono hb2.size)⟩
        · have ha := hide (ans_plus t2 (unhide G) g3 n (unhide G2) (by omega))
          go_wp2_with fail
          refine (number_is _ _ _ (by rw [cat_size]; have : ({ data := #[43] } : ByteArray).size ≤ 1 := by decide
                                      unfold maxLen; omega) (unhide ha)).mono ?_
          rintro e w2 ⟨rfl, hw2⟩
          have hb2 : Below w1.heap.size w1 w2 := by rw [hw2]; exact (Below.refl _ _).alloc (Nat.le_refl _) _
          clear hw2
          go_wp2_with fail
          refine (Pa.alive_any _).mono ?_
          rintro e w3 ⟨rfl, hb3⟩
          go_wp2_with fail
          go_ret
          exact ⟨rfl, hb2.trans (hb3.mono hb2.size)⟩
        · have ha := hide (ans_minus t2 (unhide G) g3 n (unhide G2) (by omega))
          go_wp2_with fail
          refine (number_is _ _ _ (by rw [cat_size]; have : ({ data := #[45] } : ByteArray).size ≤ 1 := by decide
                                      unfold maxLen; omega) (unhide ha)).mono ?_
          rintro e w2 ⟨rfl, hw2⟩
          have hb2 : Below w1.heap.size w1 w2 := by rw [hw2]; exact (Below.refl _ _).alloc (Nat.le_refl _) _
          clear hw2
          go_wp2_with fail
          refine (Pa.alive_any _).mono ?_
          rintro e w3 ⟨rfl, hb3⟩
          go_wp2_with fail
          go_ret
          exact ⟨rfl, hb2.trans (hb3.mono hb2.size)⟩
      · rcases (show sg % 3 = 0 ∨ sg % 3 = 1 ∨ sg % 3 = 2 from by omega) with h3 | h3 | h3
        · have ha := hide ((ans_empty t2).trans (ans_plain_no t2 (unhide G) g3 (by omega)))
          go_wp2_with fail
          refine (number_is _ _ _ (by rw [cat_size]; have : ({ data := #[] } : ByteArray).size ≤ 1 := by decide
                                      unfold maxLen; omega) (unhide ha)).mono ?_
          rintro e w2 ⟨rfl, hw2⟩
          have hb2 : Below w1.heap.size w1 w2 := by rw [hw2]; exact (Below.refl _ _).alloc (Nat.le_refl _) _
          clear hw2
          go_wp2_with fail
          refine (Pa.alive_any _).mono ?_
          rintro e w3 ⟨rfl, hb3⟩
          go_wp2_with fail
          go_ret
          exact ⟨rfl, hb2.trans (hb3.mono hb2.size)⟩
        · have ha := hide (ans_plus_no t2 (unhide G) g3 (by omega))
          go_wp2_with fail
          refine (number_is _ _ _ (by rw [cat_size]; have : ({ data := #[43] } : ByteArray).size ≤ 1 := by decide
                                      unfold maxLen; omega) (unhide ha)).mono ?_
          rintro e w2 ⟨rfl, hw2⟩
          have hb2 : Below w1.heap.size w1 w2 := by rw [hw2]; exact (Below.refl _ _).alloc (Nat.le_refl _) _
          clear hw2
          go_wp2_with fail
          refine (Pa.alive_any _).mono ?_
          rintro e w3 ⟨rfl, hb3⟩
          go_wp2_with fail
          go_ret
          exact ⟨rfl, hb2.trans (hb3.mono hb2.size)⟩
        · have ha := hide (ans_minus_no t2 (unhide G) g3 (by omega))
          go_wp2_with fail
          refine (number_is _ _ _ (by rw [cat_size]; have : ({ data := #[45] } : ByteArray).size ≤ 1 := by decide
                                      unfold maxLen; omega) (unhide ha)).mono ?_
          rintro e w2 ⟨rfl, hw2⟩
          have hb2 : Below w1.heap.size w1 w2 := by rw [hw2]; exact (Below.refl _ _).alloc (Nat.le_refl _) _
          clear hw2
          go_wp2_with fail
          refine (Pa.alive_any _).mono ?_
          rintro e w3 ⟨rfl, hb3⟩
          go_wp2_with fail
          go_ret
          exact ⟨rfl, hb2.trans (hb3.mono hb2.size)⟩

theorem law_digits_int (x nu sg : Int) (w : World) (h0 : 0 ≤ x) (h : x ≤ 18446744073709551615) (hn : 0 ≤ nu ∧ nu ≤ 255) (hs : 0 ≤ sg ∧ sg ≤ 255) :
    Calls Try.prog 8 #[.int .u64 x, .int .u8 nu, .int .u8 sg] w fun e w' => e = .returned (.bool true) ∧ Below w.heap.size w w' := by
  obtain ⟨n, rfl⟩ := Int.eq_ofNat_of_zero_le h0
  exact law_digits n nu sg w (by omega) hn.1 hn.2 hs.1 hs.2
end Go.Proofs.Ytjnlpllibpmclaa.NumWalks
