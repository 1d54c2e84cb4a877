/- The walk of CutsSingle. -/
import Derived.Test.YtpfdjnnnemkoiabDoorCuAlive
import Derived.Test.YtpfdjnnnemkoiabDoorLnFields
namespace Go.Proofs.YtpfdjnnnemkoiabDoor.Cu
open Go.RowKit Go.Shelf
open Ls (R Rg has)
open Pa (Tx)

theorem cut_first (sep : UInt8) : ∀ (l : Bs), sep ∈ l → ∃ x r, l = x ++ sep :: r ∧ ∀ c ∈ x, c ≠ sep
  | c :: l, h => by
    by_cases hc : c = sep
    · exact ⟨[], l, by rw [hc]; rfl, by simp⟩
    · obtain ⟨x, r, h1, h2⟩ := cut_first sep l (by rcases List.mem_cons.1 h with e | h; exact absurd e.symm hc; exact h)
      refine ⟨c :: x, r, by rw [h1]; rfl, fun d hd => ?_⟩
      rcases List.mem_cons.1 hd with e | hd
      · rw [e]; exact hc
      · exact h2 d hd
theorem isSep_iff (sep c : UInt8) : Ln.isSep sep.toNat c = true ↔ c = sep := by
  simp [Ln.isSep, UInt8.toNat_inj]
/-- the fields by a byte, told both ways -/
theorem fields_fcut (sep : UInt8) (h0 : sep.toNat ≠ 0) : ∀ (n : Nat) (l : Bs), l.length ≤ n → Ln.fieldsL sep.toNat l = fcut sep l := by
  intro n
  induction n with
  | zero =>
    intro l hl
    obtain rfl : l = [] := List.eq_nil_of_length_eq_zero (by omega)
    unfold Ln.fieldsL
    rw [if_neg h0, Ln.parts_nil]
    rfl
  | succ n ih =>
    intro l hl
    by_cases hm : sep ∈ l
    · obtain ⟨x, r, rfl, hx⟩ := cut_first sep l hm
      have hr := ih r (by simp at hl; omega)
      rw [fcut_hit sep x r hx, ← hr]
      unfold Ln.fieldsL
      rw [if_neg h0, if_neg h0, Ln.parts_hit x sep r (fun c hc => by cases hq : Ln.isSep sep.toNat c with | false => rfl | true => exact absurd ((isSep_iff sep c).1 hq) (hx c hc)) ((isSep_iff sep sep).2 rfl)]
      have e : Ln.lastT ((x, true) :: Ln.parts (Ln.isSep sep.toNat) r) = Ln.lastT (Ln.parts (Ln.isSep sep.toNat) r) := by
        unfold Ln.lastT
        cases Ln.parts (Ln.isSep sep.toNat) r with
        | nil => rfl
        | cons a b => simp [List.getLast?_cons]
      rw [e]
      rfl
    · have hcl : ∀ c ∈ l, c ≠ sep := fun c hc e => hm (e ▸ hc)
      rw [fcut_clean sep l hcl]
      unfold Ln.fieldsL
      rw [if_neg h0]
      by_cases hl0 : l = []
      · subst hl0; rw [Ln.parts_nil]; rfl
      · rw [Ln.parts_end l (fun c hc => by cases hq : Ln.isSep sep.toNat c with | false => rfl | true => exact absurd ((isSep_iff sep c).1 hq) (hcl c hc)) hl0]
        rfl
theorem inL_range (k k2 j : Nat) (h1 : 1 ≤ k) (h2 : k ≤ k2) : inL [((k : Int), (k2 : Int))] j = (decide (k ≤ j) && decide (j ≤ k2)) := by
  have h3 : ¬ k2 = 0 := by omega
  simp [inL, has, Ls.inR, h3]
theorem pick_range {α : Type} (k k2 : Nat) (h1 : 1 ≤ k) (h2 : k ≤ k2) (L : List α) : ∀ i, pick (inL [((k : Int), (k2 : Int))]) i L = (L.drop (k - 1 - i)).take (k2 - max (k - 1) i) := by
  induction L with
  | nil => intro i; simp [pick]
  | cons x r ih =>
    intro i
    rw [pick, inL_range k k2 (i + 1) h1 h2, ih (i + 1)]
    rcases Nat.lt_or_ge (i + 1) k with h | h
    · rw [if_neg (by simp; omega), show k - 1 - i = (k - 1 - (i + 1)) + 1 by omega, List.drop_succ_cons, show k2 - max (k - 1) (i + 1) = k2 - max (k - 1) i by omega]
    · rw [show k - 1 - i = 0 by omega, show k - 1 - (i + 1) = 0 by omega, List.drop_zero, List.drop_zero]
      rcases Nat.lt_or_ge k2 (i + 1) with h3 | h3
      · rw [if_neg (by simp; omega), show k2 - max (k - 1) (i + 1) = 0 by omega, show k2 - max (k - 1) i = 0 by omega]; simp
      · rw [if_pos (by simp; omega), show k2 - max (k - 1) i = (k2 - max (k - 1) (i + 1)) + 1 by omega, List.take_succ_cons]
theorem pick_range0 {α : Type} (k k2 : Nat) (h1 : 1 ≤ k) (h2 : k ≤ k2) (L : List α) : pick (inL [((k : Int), (k2 : Int))]) 0 L = (L.drop (k - 1)).take (k2 - (k - 1)) := by
  rw [pick_range k k2 h1 h2 L 0, Nat.sub_zero, Nat.max_zero]
theorem lfields_any (s : ByteArray) (sep : UInt8) (w : World) (hs : s.size ≤ 1073741824) (h0 : sep.toNat ≠ 0) :
    Calls Tryd.prog 11 #[.string s, .int .u8 sep.toNat] w fun e w' => ∃ v, e = .returned v ∧ RowS w.heap.size v (fcut sep (bs s)) w' ∧ Below w.heap.size w w' :=
  (Ln.fields_any s sep.toNat w hs sep.toNat_lt).mono fun e w' ⟨v, h1, h2, h3⟩ => ⟨v, h1, (by rw [← fields_fcut sep h0 _ (bs s) (Nat.le_refl _)]; exact h2), h3⟩

theorem cv_oneD (c : UInt8) (W : World) : (convert 34 9 (.slice (some ⟨W.heap.size, 0, none⟩) 1 1)).run Tryd.prog (W.alloc (.cells #[.int .u8 c.toNat] 5)).drew = .ok (.string (bt [c])) (W.alloc (.cells #[.int .u8 c.toNat] 5)).drew :=
  run_convert_bytes_back _ 34 9 5 ⟨W.heap.size, 0, none⟩ 1 [c] Tryd.underlying34 Tryd.underlying5 Tryd.underlying9 (fun j hj => by
    match j, hj with
    | 0, _ => simp [Addr.add])
theorem mem_lens {L : List Bs} {x : Bs} (h : x ∈ L) : x.length ≤ Lib.lens L := by
  induction L with
  | nil => simp at h
  | cons y r ih =>
    rcases List.mem_cons.1 h with rfl | h
    · simp [Lib.lens]
    · have := ih h; simp [Lib.lens] at this ⊢; omega
theorem bt_size (l : Bs) : (bt l).size = l.length := by show l.toArray.size = _; rw [List.size_toArray]

set_option maxHeartbeats 2000000 in
set_option maxRecDepth 100000 in
theorem single_walk (s : ByteArray) (sep : UInt8) (x : Nat) (w : World) (hx : x ≤ 65535) (hs : s.size ≤ 4611686018427387904) (ht : Tab w) :
    Calls Tryd.prog 4 #[.string s, .int .u8 sep.toNat, .int .u16 x] w fun e w' => e = .returned (.bool true) ∧ Below w.heap.size w w' := by
  have A1 := hide (alive_any w ht)
  have AA : Hid (∀ W, Below w.heap.size w W → Calls Tryd.prog 8 #[] W fun e w' => e = .returned (.bool true) ∧ Below W.heap.size W w') := fun W hW => alive_any W (ht.below hW)
  clear ht
  go_enter Tryd.func4, Tryd.ntmps4
  go_wp2_with fail
  refine (unhide A1).mono ?_
  rintro e w1 ⟨rfl, hB1⟩
  clear A1
  by_cases hbig : (20000 : Int) < (s.size : Int) ∨ (sep.toNat : Int) = 0
  · by_cases hb1 : (20000 : Int) < (s.size : Int)
    · clear hbig
      go_wp2_with fail
      refine (unhide AA w1 hB1).mono ?_
      rintro e w2 ⟨rfl, hB2⟩
      have hB2' : Below w.heap.size w w2 := hB1.trans (hB2.mono hB1.size)
      go_wp2_with fail
      go_ret
      exact ⟨rfl, hB2'⟩
    · have hb2 : (sep.toNat : Int) = 0 := hbig.resolve_left hb1
      clear hbig
      go_wp2_with fail
      refine (unhide AA w1 hB1).mono ?_
      rintro e w2 ⟨rfl, hB2⟩
      have hB2' : Below w.heap.size w w2 := hB1.trans (hB2.mono hB1.size)
      go_wp2_with fail
      go_ret
      exact ⟨rfl, hB2'⟩
  · have hb1 : ¬ (20000 : Int) < (s.size : Int) := fun h => hbig (.inl h)
    have hb2 : ((sep.toNat : Int) == 0) = false := beq_eq_false_iff_ne.2 (fun h => hbig (.inr h))
    have hs0 : sep.toNat ≠ 0 := fun h => hbig (.inr (by omega))
    have F1 := hide (lfields_any s sep w1 (by omega) hs0)
    clear hbig AA hs0
    go_wp2_with fail
    refine (unhide F1).mono ?_
    rintro e w2 ⟨v, rfl, hO, hB2⟩
    have hB2' : Below w.heap.size w w2 := hB1.trans (hB2.mono hB1.size)
    clear F1 hB2 hB1
    obtain ⟨L, hL⟩ : ∃ L, L = fcut sep (bs s) := ⟨_, rfl⟩
    rw [← hL] at hO
    obtain ⟨a, c, hv, hTx⟩ := tx_of_rowS hO
    have hsum := fcut_sum sep (bs s)
    rw [← hL, bs_len] at hsum
    obtain ⟨m, hm⟩ : ∃ m, m = L.length := ⟨_, rfl⟩
    rw [← hm] at hv hTx hsum
    subst hv
    have HTx := hide hTx
    have HL := hide hL
    have HM := hide hm
    have hL1 : 1 ≤ m := hsum.2
    have hL2 : m ≤ 20001 := by omega
    obtain ⟨k, hk⟩ : ∃ k : Nat, k = x % (m + 1) + 1 := ⟨_, rfl⟩
    have hkm := Nat.mod_lt x (show 0 < m + 1 by omega)
    have hk1 : 1 ≤ k := by omega
    have hk2 : k ≤ m + 1 := by omega
    have hke : (x : Int) % ((m : Int) + 1) + 1 = (k : Int) := by
      rw [hk]; push_cast; rfl
    have hm0 : ¬ (m : Int) + 1 = 0 := by omega
    have hmn : 0 ≤ (x : Int) % ((m : Int) + 1) := Int.emod_nonneg _ (by omega)
    have hml : (x : Int) % ((m : Int) + 1) ≤ 20001 := by have := Int.emod_lt_of_pos (x : Int) (show 0 < (m : Int) + 1 by omega); omega
    clear hL hm
    clear hO hTx hkm hk hsum
    go_wp2_with fail
    obtain ⟨w3, hw3⟩ : ∃ w3, w3 = w2.alloc (.cells #[.int .i64 k, .int .i64 k] 33) := ⟨_, rfl⟩
    rw [← hw3]
    have hA3 : Below w2.heap.size w2 w3 := by rw [hw3]; exact (Below.refl _ w2).alloc (Nat.le_refl _) _
    have hR3 : Hid (Rg w3 (some ⟨w2.heap.size, 0, none⟩) 1 1 [((k : Int), (k : Int))]) := by rw [hw3]; exact Ls.rg_lit w2 [((k : Int), (k : Int))] 33
    clear hw3
    have hB3 : Below w.heap.size w w3 := hB2'.trans (hA3.mono hB2'.size)
    have G1 := hide (fields_any s (some ⟨w2.heap.size, 0, none⟩) 1 1 1 [((k : Int), (k : Int))] sep true w3 (unhide hR3) (by omega) (by omega))
    have G2 : Hid (∀ (W V : World), V = W.alloc (.cells #[.int .i64 k, .int .i64 ((k : Int) + 1)] 33) → Calls Tryd.prog 12 #[.string s, .slice (some ⟨W.heap.size, 0, none⟩) 1 1, .int .u8 sep.toNat, .bool true] V fun e w' => e = .returned (faAns s [((k : Int), (k : Int) + 1)] sep true) ∧ Below V.heap.size V w') := fun W V hV =>
      fields_any s (some ⟨W.heap.size, 0, none⟩) 1 1 1 [((k : Int), (k : Int) + 1)] sep true V (by rw [hV]; exact Ls.rg_lit W [((k : Int), (k : Int) + 1)] 33) (by omega) (by omega)
    have HTx3 : Hid (Tx w3 a m c (L.map bt)) := (unhide HTx).below hA3
    clear hA3 HTx hR3 hB2'
    by_cases hmem : sep ∈ bs s
    · have hm2 : 2 ≤ m := by have := fcut_one sep (bs s) hmem; rw [← unhide HL, ← unhide HM] at this; exact this
      have ea1 : faAns s [((k : Int), (k : Int))] sep true = .tuple #[.string (bt (jn sep ((L.drop (k - 1)).take 1))), .bool true] := by
        unfold faAns
        rw [if_pos hmem]
        unfold fpick
        rw [pick_range0 k k hk1 (Nat.le_refl _), ← unhide HL, show k - (k - 1) = 1 by omega]
      have ea2 : faAns s [((k : Int), (k : Int) + 1)] sep true = .tuple #[.string (bt (jn sep ((L.drop (k - 1)).take 2))), .bool true] := by
        rw [show (k : Int) + 1 = ((k + 1 : Nat) : Int) by omega]
        unfold faAns
        rw [if_pos hmem]
        unfold fpick
        rw [pick_range0 k (k + 1) hk1 (by omega), ← unhide HL, show k + 1 - (k - 1) = 2 by omega]
      rw [ea1] at G1
      rw [ea2] at G2
      have hm1 : ((m : Int) == 1) = false := beq_eq_false_iff_ne.2 (by omega)
      obtain ⟨A, hA⟩ : ∃ A, A = bt (jn sep ((L.drop (k - 1)).take 1)) := ⟨_, rfl⟩
      obtain ⟨B, hB⟩ : ∃ B, B = bt (jn sep ((L.drop (k - 1)).take 2)) := ⟨_, rfl⟩
      rw [← hA] at G1
      rw [← hB] at G2
      have HA := hide hA
      have HB := hide hB
      clear ea1 ea2 hmem hA hB
      refine (unhide G1).mono ?_
      rintro e w4 ⟨rfl, hB4⟩
      have hB4' : Below w.heap.size w w4 := hB3.trans (hB4.mono hB3.size)
      have HTx4 : Hid (Tx w4 a m c (L.map bt)) := (unhide HTx3).below hB4
      clear G1 hB4 hB3 HTx3
      go_wp2_with fail
      obtain ⟨w4', hw4⟩ : ∃ V, V = w4.alloc (.cells #[.int .i64 k, .int .i64 ((k : Int) + 1)] 33) := ⟨_, rfl⟩
      rw [← hw4]
      have hA4 : Below w4.heap.size w4 w4' := by rw [hw4]; exact (Below.refl _ w4).alloc (Nat.le_refl _) _
      refine (unhide G2 w4 w4' hw4).mono ?_
      rintro e w5 ⟨rfl, hB5⟩
      have hA5 : Below w4.heap.size w4 w5 := hA4.trans (hB5.mono hA4.size)
      clear hw4 hA4
      have hB5' : Below w.heap.size w w5 := hB4'.trans (hA5.mono hB4'.size)
      have HTx5 : Hid (Tx w5 a m c (L.map bt)) := (unhide HTx4).below hA5
      clear G2 hB5 hB4' HTx4 hA5
      by_cases hkm2 : k ≤ m
      · rcases (unhide HTx5).cells with h0 | ⟨b, off, rfl, hb, hc⟩
        · omega
        have hkl : k - 1 < L.length := by have := unhide HM; omega
        have hcA : w5.cell? ⟨b, off + (k - 1), none⟩ = some (.string A) := by
          rw [hc (k - 1) (by omega), unhide HA]
          have e : (L.drop (k - 1)).take 1 = [L[k - 1]] := by rw [List.drop_eq_getElem_cons hkl]; rfl
          rw [e]
          simp [List.getD, List.getElem?_eq_getElem hkl, Lib.join_one]
        have hkm3 : ¬ (m : Int) < (k : Int) := by omega
        by_cases hkm4 : k < m
        · have hkm5 : (k : Int) < (m : Int) := by omega
          have hkl2 : k < L.length := by have := unhide HM; omega
          obtain ⟨C, hC⟩ : ∃ C, C = bt L[k] := ⟨_, rfl⟩
          have hcC : w5.cell? ⟨b, off + k, none⟩ = some (.string C) := by
            rw [hc k (by omega), hC]
            simp [List.getD, List.getElem?_eq_getElem hkl2]
          have hABC : Hid (A ++ bt [sep] ++ C = B) := by
            show _ = _
            have e1 : (L.drop (k - 1)).take 1 = [L[k - 1]] := by rw [List.drop_eq_getElem_cons hkl]; rfl
            have e2 : (L.drop (k - 1)).take 2 = [L[k - 1], L[k]] := by
              rw [List.drop_eq_getElem_cons hkl, List.take_succ_cons]
              have : k - 1 + 1 = k := by omega
              rw [this, List.drop_eq_getElem_cons hkl2]
              rfl
            rw [unhide HA, unhide HB, hC, e1, e2]
            apply ba_ext
            simp [bs, bt, jn, Lib.join_cons, Lib.joinTail]
          have hlens := (fcut_sum sep (bs s)).1
          rw [← unhide HL, bs_len] at hlens
          have hAs : A.size ≤ 20001 := by
            have e1 : (L.drop (k - 1)).take 1 = [L[k - 1]] := by rw [List.drop_eq_getElem_cons hkl]; rfl
            rw [unhide HA, e1, bt_size, jn, Lib.join_one]
            have := mem_lens (List.getElem_mem hkl); omega
          have hCs : C.size ≤ 20001 := by
            rw [hC, bt_size]
            have := mem_lens (List.getElem_mem hkl2); omega
          have hcv := cv_oneD sep w5
          obtain ⟨D, hD⟩ : ∃ D, D = bt [sep] := ⟨_, rfl⟩
          rw [← hD] at hcv hABC
          have hDs : D.size = 1 := by rw [hD]; rfl
          obtain ⟨AD, hAD⟩ : ∃ AD, AD = A ++ D := ⟨_, rfl⟩
          have hADs : AD.size = A.size + 1 := by rw [hAD, ByteArray.size_append, hDs]
          have hAD' := hAD.symm
          have hABC' : AD ++ C = B := by rw [hAD]; exact unhide hABC
          clear hc hC HA HB hD hAD hABC hlens HL HM
          go_wp2_with fail
          go_region
          go_wp2_with fail
          go_ret
          exact ⟨rfl, by repeat (first | exact hB5' | apply Below.drew | apply Below.alloc | exact hB5'.size)⟩
        · have hkm5 : ¬ (k : Int) < (m : Int) := by omega
          have hAB : A = B := by
            have e1 : (L.drop (k - 1)).take 1 = [L[k - 1]] := by rw [List.drop_eq_getElem_cons hkl]; rfl
            have e2 : (L.drop (k - 1)).take 2 = [L[k - 1]] := by
              rw [List.drop_eq_getElem_cons hkl, List.take_succ_cons, show k - 1 + 1 = k by omega, List.drop_eq_nil_of_le (by have := unhide HM; omega)]
              rfl
            rw [unhide HA, unhide HB, e1, e2]
          subst hAB
          clear hc HA HB
          go_wp2_with fail
          go_ret
          exact ⟨rfl, hB5'⟩
      · have hkm3 : (m : Int) < (k : Int) := by omega
        have hdn : L.drop (k - 1) = [] := List.drop_eq_nil_of_le (by have := unhide HM; omega)
        have hA0 : A = { data := #[] } := by rw [unhide HA, hdn]; rfl
        have hB0 : B = { data := #[] } := by rw [unhide HB, hdn]; rfl
        subst hA0 hB0
        clear hdn HA HB
        go_wp2_with fail
        go_ret
        exact ⟨rfl, hB5'⟩
    · have hm1 : m = 1 := by rw [unhide HM, unhide HL, fcut_clean sep (bs s) (fun c hc e => hmem (e ▸ hc))]; rfl
      have hm1' : ((m : Int) == 1) = true := by rw [hm1]; rfl
      have ea1 : faAns s [((k : Int), (k : Int))] sep true = .tuple #[.string { data := #[] }, .bool false] := by unfold faAns; rw [if_neg hmem]; rfl
      have ea2 : faAns s [((k : Int), (k : Int) + 1)] sep true = .tuple #[.string { data := #[] }, .bool false] := by unfold faAns; rw [if_neg hmem]; rfl
      rw [ea1] at G1
      rw [ea2] at G2
      clear ea1 ea2 hmem hm1
      refine (unhide G1).mono ?_
      rintro e w4 ⟨rfl, hB4⟩
      have hB4' : Below w.heap.size w w4 := hB3.trans (hB4.mono hB3.size)
      clear G1 hB4 hB3 HTx3
      go_wp2_with fail
      obtain ⟨w4', hw4⟩ : ∃ V, V = w4.alloc (.cells #[.int .i64 k, .int .i64 ((k : Int) + 1)] 33) := ⟨_, rfl⟩
      rw [← hw4]
      have hA4 : Below w4.heap.size w4 w4' := by rw [hw4]; exact (Below.refl _ w4).alloc (Nat.le_refl _) _
      refine (unhide G2 w4 w4' hw4).mono ?_
      rintro e w5 ⟨rfl, hB5⟩
      have hA5 : Below w4.heap.size w4 w5 := hA4.trans (hB5.mono hA4.size)
      have hB5' : Below w.heap.size w w5 := hB4'.trans (hA5.mono hB4'.size)
      clear hw4 hA4 G2 hB5 hB4' hA5
      go_wp2_with fail
      go_ret
      exact ⟨rfl, hB5'⟩
end Go.Proofs.YtpfdjnnnemkoiabDoor.Cu
