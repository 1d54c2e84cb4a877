/- The walk of CutsTabs. -/
import Derived.Test.YtpfdjnnnemkoiabDoorCuAlive
namespace Go.Proofs.YtpfdjnnnemkoiabDoor.Cu
open Go.RowKit Go.Shelf

/-- the column behind a text that was told without tabs -/
def colA (n : Nat) : Nat → Bs → Nat
  | col, [] => col
  | col, c :: s => if c = 9 then colA n (col + gap n col) s else if c = 10 then colA n 0 s else colA n (col + 1) s
theorem ex_app (n : Nat) (s t : Bs) : ∀ col, ex n col (s ++ t) = ex n col s ++ ex n (colA n col s) t := by
  induction s with
  | nil => intro col; simp [ex, colA]
  | cons c s ih =>
    intro col
    rw [List.cons_append, ex, ex, colA]
    split
    · rw [ih, List.append_assoc]
    · split
      · rw [ih]; rfl
      · rw [ih]; rfl
theorem gap_congr (n a b : Nat) (h : a % n = b % n) : gap n a = gap n b := by unfold gap; rw [h]
theorem add_congr (n a b k : Nat) (h : a % n = b % n) : (a + k) % n = (b + k) % n := by rw [Nat.add_mod, h, ← Nat.add_mod]
theorem ex_congr (n : Nat) (s : Bs) : ∀ a b, a % n = b % n → ex n a s = ex n b s := by
  induction s with
  | nil => intro a b _; rfl
  | cons c s ih =>
    intro a b h
    rw [ex, ex, gap_congr n a b h]
    split
    · rw [ih _ _ (add_congr n a b _ h)]
    · split
      · rfl
      · rw [ih _ _ (add_congr n a b _ h)]
theorem colA_app (n : Nat) (s t : Bs) : ∀ col, colA n col (s ++ t) = colA n (colA n col s) t := by
  induction s with
  | nil => intro col; rfl
  | cons c s ih =>
    intro col
    simp only [List.cons_append, colA]
    split
    · exact ih _
    · split
      · exact ih _
      · exact ih _
theorem colA_tab (n : Nat) (hn : 0 < n) (s : Bs) (col : Nat) : colA n col (s ++ [9]) % n = 0 := by
  rw [colA_app]
  simp [colA]
  exact gap_mod n _ hn
theorem last_end {l : Bs} {f : Nat} (hf : f ≤ l.length) (hn : 10 ∉ l.drop f) {c : Nat} (h : (10 ∉ l ∧ c = 0 + l.length) ∨ ∃ a b, l = a ++ 10 :: b ∧ 10 ∉ b ∧ c = b.length) (hz : f = 0 ∨ l[f - 1]? = some 10) : c = l.length - f := by
  rcases h with ⟨h1, h2⟩ | ⟨a, b, h1, h2, h3⟩
  · rcases hz with rfl | hz
    · omega
    · exact absurd (List.mem_of_getElem? hz) h1
  · have hl := congrArg List.length h1
    rw [List.length_append, List.length_cons] at hl
    have h4 : a.length < f := by
      rcases Nat.lt_or_ge a.length f with h | h
      · exact h
      · exfalso
        apply hn
        rw [h1, List.drop_append_of_le_length h]
        simp
    rcases hz with rfl | hz
    · omega
    · have h5 : a.length = f - 1 := by
        rcases Nat.lt_or_ge a.length (f - 1) with h | h
        · exfalso
          apply h2
          rw [h1, List.getElem?_append_right (by omega), show f - 1 - a.length = (f - 1 - a.length - 1) + 1 by omega, List.getElem?_cons_succ] at hz
          exact List.mem_of_getElem? hz
        · omega
      omega
theorem ex_none (n : Nat) (s : Bs) : ∀ col, ∀ c ∈ ex n col s, c ≠ 9 := by
  induction s with
  | nil => intro col c hc; simp [ex] at hc
  | cons d s ih =>
    intro col c hc
    rw [ex] at hc
    split at hc
    · rcases List.mem_append.1 hc with h | h
      · rw [List.eq_of_mem_replicate h]; decide
      · exact ih _ c h
    · split at hc
      · rcases List.mem_cons.1 hc with h | h
        · rw [h]; decide
        · exact ih _ c h
      · rename_i h9 h10
        rcases List.mem_cons.1 hc with h | h
        · rw [h]; exact h9
        · exact ih _ c h
theorem ex_same (n : Nat) (s : Bs) (h : ∀ c ∈ s, c ≠ 9) : ∀ col, ex n col s = s := by
  induction s with
  | nil => intro col; rfl
  | cons d s ih =>
    intro col
    have h9 := h d (by simp)
    have ih' := ih (fun c hc => h c (by simp [hc]))
    rw [ex, if_neg h9]
    split
    · rename_i e; rw [ih', e]
    · rw [ih']
/-- the column is how far the last end lies behind -/
theorem colA_last (n : Nat) (s : Bs) : ∀ col, (10 ∉ ex n col s ∧ colA n col s = col + (ex n col s).length) ∨ (∃ a b, ex n col s = a ++ 10 :: b ∧ 10 ∉ b ∧ colA n col s = b.length) := by
  induction s with
  | nil => intro col; exact .inl ⟨by simp [ex], by simp [ex, colA]⟩
  | cons c s ih =>
    intro col
    rw [ex, colA]
    split
    · rcases ih (col + gap n col) with ⟨h1, h2⟩ | ⟨a, b, h1, h2, h3⟩
      · refine .inl ⟨?_, by rw [h2, List.length_append, List.length_replicate]; omega⟩
        intro hc
        rcases List.mem_append.1 hc with h | h
        · exact absurd (List.eq_of_mem_replicate h) (by decide)
        · exact h1 h
      · exact .inr ⟨_ ++ a, b, by rw [h1, List.append_assoc], h2, h3⟩
    · split
      · rcases ih 0 with ⟨h1, h2⟩ | ⟨a, b, h1, h2, h3⟩
        · exact .inr ⟨[], _, rfl, h1, by rw [h2]; omega⟩
        · exact .inr ⟨10 :: a, b, by rw [h1]; rfl, h2, h3⟩
      · rename_i h9 h10
        rcases ih (col + 1) with ⟨h1, h2⟩ | ⟨a, b, h1, h2, h3⟩
        · refine .inl ⟨?_, by rw [h2, List.length_cons]; omega⟩
          intro hc
          rcases List.mem_cons.1 hc with h | h
          · exact h10 h.symm
          · exact h1 h
        · exact .inr ⟨c :: a, b, by rw [h1]; rfl, h2, h3⟩
theorem exAns_ok (n : Nat) (s : Bs) (h1 : 1 ≤ n) (h2 : n ≤ 100) (hl : (ex n 0 s).length ≤ 1048576) : exAns (n : Int) s = .tuple #[.string (bt (ex n 0 s)), .int .i64 0] := by
  unfold exAns
  rw [if_neg (by omega), show ((n : Int)).toNat = n by omega, if_neg (by omega)]
  rfl

theorem idx_pred (A : ByteArray) (f : Nat) (h1 : 1 ≤ f) (h2 : f ≤ A.size) : ∃ c : UInt8, (bs A)[f - 1]? = some c ∧ ∀ W, (Instr.index 9 (.string A) (.int .i64 ((f : Int) - 1))).run Tryd.prog W = .ok (.int .u8 c.toNat) W := by
  obtain ⟨f', rfl⟩ : ∃ f', f = f' + 1 := ⟨f - 1, by omega⟩
  have hf : f' < A.size := by omega
  refine ⟨A[f'], ?_, fun W => ?_⟩
  · rw [show f' + 1 - 1 = f' by omega, List.getElem?_eq_getElem (by rw [bs_len]; exact hf)]; rfl
  · rw [show ((f' + 1 : Nat) : Int) - 1 = (f' : Int) by omega]
    simp [Instr.index, run_underlying Tryd.underlying9, asIntOf, go_sem, hf]
theorem drop_pred (A : Bs) (f : Nat) (c : UInt8) (h1 : 1 ≤ f) (h : A[f - 1]? = some c) : A.drop (f - 1) = c :: A.drop f := by
  have hl := (List.getElem?_eq_some_iff.1 h).1
  rw [List.drop_eq_getElem_cons hl, show f - 1 + 1 = f by omega, (List.getElem?_eq_some_iff.1 h).2]

set_option maxHeartbeats 2000000 in
set_option maxRecDepth 100000 in
theorem tabs_walk (s t : ByteArray) (x : Nat) (w : World) (hx : x ≤ 255) (hs : s.size ≤ 1152921504606846976) (hts : t.size ≤ 1152921504606846976) (ht : Tab w) :
    Calls Tryd.prog 6 #[.string s, .string t, .int .u8 x] w fun e w' => e = .returned (.bool true) ∧ Below w.heap.size w w' := by
  have HT := hide ht
  have A1 := hide (alive_any w ht)
  clear ht
  go_enter Tryd.func6, Tryd.ntmps6
  go_wp2_with fail
  refine (unhide A1).mono ?_
  rintro e w1 ⟨rfl, hB1⟩
  clear A1
  have hT1 := hide ((unhide HT).below hB1)
  by_cases hbig : (5000 : Int) < (s.size : Int) + (t.size : Int)
  · have A2 := hide (alive_any w1 (unhide hT1))
    go_wp2_with fail
    refine (unhide A2).mono ?_
    rintro e w2 ⟨rfl, hB2⟩
    have hB2' : Below w.heap.size w w2 := hB1.trans (hB2.mono hB1.size)
    go_wp2_with fail
    go_ret
    exact ⟨rfl, hB2'⟩
  · obtain ⟨k, hk⟩ : ∃ k : Nat, k = x % 100 + 1 := ⟨_, rfl⟩
    have hk1 : 1 ≤ k := by omega
    have hk2 : k ≤ 100 := by omega
    have hke : (x : Int) % 100 + 1 = (k : Int) := by omega
    clear hk
    obtain ⟨s1, hs1⟩ : ∃ s1, s1 = s ++ { data := #[9] } := ⟨_, rfl⟩
    obtain ⟨s2, hs2⟩ : ∃ s2, s2 = s1 ++ t := ⟨_, rfl⟩
    have hs1b : bs s1 = bs s ++ [9] := by rw [hs1]; simp [bs]
    have hs2b : bs s2 = bs s ++ [9] ++ bs t := by rw [hs2, ← hs1b]; simp [bs]
    have hs1z : s1.size = s.size + 1 := by rw [hs1, ByteArray.size_append]; rfl
    have hs2z : s2.size = s1.size + t.size := by rw [hs2, ByteArray.size_append]
    have l1 := ex_len k hk1 (bs s1) 0
    have l2 := ex_len k hk1 (bs t) 0
    have l3 := ex_len k hk1 (bs s2) 0
    rw [bs_len] at l1 l2 l3
    have m1 : k * s1.size ≤ 100 * 5001 := Nat.mul_le_mul hk2 (by omega)
    have m2 : k * t.size ≤ 100 * 5001 := Nat.mul_le_mul hk2 (by omega)
    have m3 : k * s2.size ≤ 100 * 5001 := Nat.mul_le_mul hk2 (by omega)
    obtain ⟨A, hA⟩ : ∃ A, A = bt (ex k 0 (bs s1)) := ⟨_, rfl⟩
    obtain ⟨Bv, hBv⟩ : ∃ B, B = bt (ex k 0 (bs t)) := ⟨_, rfl⟩
    obtain ⟨C, hC⟩ : ∃ C, C = bt (ex k 0 (bs s2)) := ⟨_, rfl⟩
    have hCb : bs C = ex k 0 (bs s2) := by rw [hC]; rfl
    have hAb : bs A = ex k 0 (bs s1) := by rw [hA]; rfl
    have hBb : bs Bv = ex k 0 (bs t) := by rw [hBv]; rfl
    have hCs : C.size ≤ 500100 := by rw [← bs_len, hCb]; omega
    have hAs : A.size ≤ 500100 := by rw [← bs_len, hAb]; omega
    have hBs : Bv.size ≤ 500100 := by rw [← bs_len, hBb]; omega
    have hn9 : ∀ c ∈ bs C, c ≠ 9 := by rw [hCb]; exact ex_none k _ 0
    have hD : ex k 0 (bs C) = bs C := ex_same k _ hn9 0
    have hAB : C = A ++ Bv := by
      apply ba_ext
      have e1 : bs (A ++ Bv) = bs A ++ bs Bv := by simp [bs]
      rw [e1, hCb, hAb, hBb, hs2b, hs1b, ex_app k (bs s ++ [9]) (bs t) 0, ex_congr k (bs t) _ 0 (by rw [colA_tab k hk1]; simp)]
    have F1 := hide (fun W => expand_any s1 (k : Int) W (by omega))
    rw [exAns_ok k (bs s1) hk1 hk2 (by omega), ← hA] at F1
    have F2 := hide (fun W => expand_any t (k : Int) W (by omega))
    rw [exAns_ok k (bs t) hk1 hk2 (by omega), ← hBv] at F2
    have F3 := hide (fun W => expand_any s2 (k : Int) W (by omega))
    rw [exAns_ok k (bs s2) hk1 hk2 (by omega), ← hC] at F3
    have F4 := hide (fun W => expand_any C (k : Int) W (by omega))
    rw [exAns_ok k (bs C) hk1 hk2 (by rw [hD, bs_len]; omega), hD, show bt (bs C) = C from rfl] at F4
    have hcol := colA_last k (bs s1) 0
    have hcm := colA_tab k hk1 (bs s) 0
    rw [← hs1b] at hcm
    rw [← hAb] at hcol
    have HCOL := hide (And.intro hcol hcm)
    have HN9 := hide hn9
    have HAB := hide hAB
    have hs1' := hs1.symm
    have hs2' := hs2.symm
    clear hcol hcm hn9 hAB hD hCb hAb hBb hC hBv hA m1 m2 m3 l1 l2 l3 hs1b hs2b hs1 hs2
    go_wp2_with fail
    refine (unhide F1 w1).mono ?_
    rintro e w2 ⟨rfl, hB2⟩
    have hB2' : Below w.heap.size w w2 := hB1.trans (hB2.mono hB1.size)
    clear F1 hB2 hT1 HT
    go_wp2_with fail
    refine (unhide F2 w2).mono ?_
    rintro e w3 ⟨rfl, hB3⟩
    have hB3' : Below w.heap.size w w3 := hB2'.trans (hB3.mono hB2'.size)
    clear F2 hB3
    go_wp2_with fail
    refine (unhide F3 w3).mono ?_
    rintro e w4 ⟨rfl, hB4⟩
    have hB4' : Below w.heap.size w w4 := hB3'.trans (hB4.mono hB3'.size)
    clear F3 hB4
    go_wp2_with fail
    refine (unhide F4 w4).mono ?_
    rintro e w5 ⟨rfl, hB5⟩
    have hB5' : Below w.heap.size w w5 := hB4'.trans (hB5.mono hB4'.size)
    clear F4 hB5 hB2' hB3' hB4' hB1
    have hAB := (unhide HAB).symm
    go_wp2_with fail
    clear hs1' hs2' hs1z hs2z hAB HAB
    go_loopw [16] (fun ii wr => ∃ i : Nat, i ≤ C.size ∧ ii = .int .i64 i ∧ Hid (Below w.heap.size w wr)) (fun ii _ => C.size - (intOf ii).toNat)
    case atStart => exact ⟨0, by omega, rfl, hB5'⟩
    case round =>
      obtain ⟨i, hi, rfl, hbl⟩ := hrel
      by_cases hlt : i < C.size
      · have hlt' : (i : Int) < (C.size : Int) := by omega
        have h9 : ((C[i].toNat : Int) == 9) = false := beq_eq_false_iff_ne.2 (fun e => unhide HN9 C[i] (by
          have : C[i] = (bs C)[i]'(by rw [bs_len]; exact hlt) := rfl
          rw [this]; exact List.getElem_mem _) (u8_eq e))
        go_wp2_with fail
        go_roundw
        case rel => exact ⟨i + 1, by omega, by go_num, hbl⟩
        case measure => simp [intOf]; omega
      · obtain rfl : i = C.size := by omega
        have HA0 : Hid (10 ∉ (bs A).drop A.size) := by rw [bs_end A _ (Nat.le_refl _)]; simp [Hid]
        go_wp2_with fail
        go_loopw [17] (fun ff wr => ∃ f : Nat, f ≤ A.size ∧ ff = .int .i64 f ∧ Hid (10 ∉ (bs A).drop f) ∧ Hid (Below w.heap.size w wr)) (fun ff _ => (intOf ff).toNat)
        case atStart => exact ⟨A.size, Nat.le_refl _, rfl, HA0, hbl⟩
        case round =>
          obtain ⟨f, hf, rfl, hno, hbl2⟩ := hrel
          have hend : (f = 0 ∨ (bs A)[f - 1]? = some 10) → Hid (((A.size : Int) - (f : Int)) % (k : Int) = 0) := fun hz => by
            have h1 := last_end (by rw [bs_len]; exact hf) (unhide hno) (unhide HCOL).1 hz
            have h2 := (unhide HCOL).2
            rw [h1, bs_len] at h2
            show _ = _
            rw [show (A.size : Int) - (f : Int) = ((A.size - f : Nat) : Int) by omega]
            exact_mod_cast h2
          have hk0 : ¬ (k : Int) = 0 := by omega
          have HEND := hide hend
          clear hend
          by_cases h0 : f = 0
          · subst h0
            have hmod := unhide (unhide HEND (.inl rfl))
            have hmod0 : ((A.size : Int) % (k : Int) == 0) = true := by rw [show (A.size : Int) - ((0 : Nat) : Int) = (A.size : Int) by omega] at hmod; rw [hmod]; rfl
            clear HEND hmod
            go_wp2_with fail
            go_ret
            exact ⟨rfl, unhide hbl2⟩
          · obtain ⟨c, hc, hix⟩ := idx_pred A f (by omega) hf
            have hf0 : (0 : Int) < (f : Int) := by omega
            by_cases h10 : c = 10
            · have e10 : (c.toNat : Int) = 10 := by rw [h10]; rfl
              have hmod := unhide (unhide HEND (.inr (by rw [hc, h10])))
              have hmod0 : (((A.size : Int) - (f : Int)) % (k : Int) == 0) = true := by rw [hmod]; rfl
              clear HEND hmod
              go_wp2_with fail
              go_ret
              exact ⟨rfl, unhide hbl2⟩
            · have e10 : ¬ (c.toNat : Int) = 10 := fun e => h10 (u8_eq e)
              have hno2 : Hid (10 ∉ (bs A).drop (f - 1)) := by
                rw [drop_pred (bs A) f c (by omega) hc]
                intro hm
                rcases List.mem_cons.1 hm with e | hm
                · exact h10 e.symm
                · exact unhide hno hm
              clear HEND
              go_wp2_with fail
              go_roundw
              case rel => exact ⟨f - 1, by omega, by go_num, hno2, hbl2⟩
              case measure => simp [intOf]; omega
end Go.Proofs.YtpfdjnnnemkoiabDoor.Cu
