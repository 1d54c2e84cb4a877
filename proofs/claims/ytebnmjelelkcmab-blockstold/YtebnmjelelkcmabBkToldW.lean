/- BlocksTold, walked. -/
import Derived.Test.YtebnmjelelkcmabBkAlive
import Derived.Deep.LoopGhost
set_option linter.unusedVariables false
namespace Go.Proofs.Ytebnmjelelkcmab.Bk
open Go.RowKit Go.Shelf Cu Plain

def dgt (n : Nat) : UInt8 := UInt8.ofNat (48 + n % 10)
theorem dgt_nat (n : Nat) : (dgt n).toNat = 48 + n % 10 := by unfold dgt; simp; omega
def dec (n : Nat) : Bs := if _h : n < 10 then [dgt n] else dec (n / 10) ++ [dgt n]
termination_by n
decreasing_by omega
theorem dec_small {n : Nat} (h : n < 10) : dec n = [dgt n] := by rw [dec, dif_pos h]
theorem dec_great {n : Nat} (h : ¬ n < 10) : dec n = dec (n / 10) ++ [dgt n] := by rw [dec, dif_neg h]
theorem dgt_dig (n : Nat) : dig (dgt n) = true := by unfold dig; rw [dgt_nat]; simp; omega
theorem dec_all : ∀ (f n : Nat), n < f → (dec n).all dig = true ∧ nval (dec n) = (n : Int) ∧ 1 ≤ (dec n).length
  | 0, n, h => by omega
  | f + 1, n, h => by
    by_cases h1 : n < 10
    · rw [dec_small h1]
      refine ⟨by simp [dgt_dig], ?_, by simp⟩
      simp only [nval, List.foldl_cons, List.foldl_nil, dgt_nat]
      omega
    · obtain ⟨i1, i2, i3⟩ := dec_all f (n / 10) (by omega)
      rw [dec_great h1]
      refine ⟨by rw [List.all_append, i1]; simp [dgt_dig], ?_, by simp⟩
      rw [nval_snoc, i2, dgt_nat]
      omega
theorem dec_short (k : Nat) : ∀ n, n < 10 ^ (k + 1) → (dec n).length ≤ k + 1 := by
  induction k with
  | zero => intro n h; rw [dec_small (by omega)]; simp
  | succ k ih =>
    intro n h
    by_cases h1 : n < 10
    · rw [dec_small h1]; simp
    · rw [dec_great h1, List.length_append]
      have := ih (n / 10) (by rw [Nat.pow_succ] at h; omega)
      simp; omega
theorem dec_last (n : Nat) : (dec n).getLast? = some (dgt n) := by
  by_cases h1 : n < 10
  · rw [dec_small h1]; rfl
  · rw [dec_great h1]; simp
theorem fin_dec (n : Nat) (T : Int) (hT : 1 ≤ T) : fin (dec n) T = decide ((n : Int) * T ≤ 2147483647) := by
  obtain ⟨h1, h2, h3⟩ := dec_all (n + 1) n (by omega)
  by_cases h : (n : Int) * T ≤ 2147483647
  · have hn : (n : Int) ≤ 2147483647 := by
      have := Int.mul_le_mul_of_nonneg_left hT (by omega : (0 : Int) ≤ (n : Int))
      omega
    have hl : (dec n).length ≤ 10 := dec_short 9 n (by omega)
    unfold fin
    rw [h1, h2, decide_eq_true h3, decide_eq_true hl]
    rfl
  · unfold fin
    rw [h2, decide_eq_false h]
    simp
theorem sz_plain (n : Nat) : szA (dec n) = finA (dec n) 1 := by
  have e0 : szA (dec n) = finA (szD (dec n)) (szT (dec n)) := rfl
  have k1 : ¬ (dec n).getLast? = some 107 := by rw [dec_last]; intro e; injection e with e; have := dgt_nat n; rw [e] at this; simp at this; omega
  have k2 : ¬ (dec n).getLast? = some 98 := by rw [dec_last]; intro e; injection e with e; have := dgt_nat n; rw [e] at this; simp at this; omega
  rw [e0, show szD (dec n) = dec n by unfold szD; rw [if_neg (fun h => h.elim k1 k2)], show szT (dec n) = 1 by unfold szT; rw [if_neg k1, if_neg k2]]
theorem sz_k (n : Nat) : szA (dec n ++ [107]) = finA (dec n) 1024 := by
  have e0 : szA (dec n ++ [107]) = finA (szD (dec n ++ [107])) (szT (dec n ++ [107])) := rfl
  have k1 : (dec n ++ [(107 : UInt8)]).getLast? = some 107 := by simp
  rw [e0, show szD (dec n ++ [107]) = dec n by unfold szD; rw [if_pos (.inl k1)]; simp, show szT (dec n ++ [107]) = 1024 by unfold szT; rw [if_pos k1]]
theorem sz_b (n : Nat) : szA (dec n ++ [98]) = finA (dec n) 512 := by
  have e0 : szA (dec n ++ [98]) = finA (szD (dec n ++ [98])) (szT (dec n ++ [98])) := rfl
  have k1 : ¬ (dec n ++ [(98 : UInt8)]).getLast? = some 107 := by simp
  have k2 : (dec n ++ [(98 : UInt8)]).getLast? = some 98 := by simp
  rw [e0, show szD (dec n ++ [98]) = dec n by unfold szD; rw [if_pos (.inr k2)]; simp, show szT (dec n ++ [98]) = 512 by unfold szT; rw [if_neg k1, if_pos k2]]

/-- one digit cut out of all ten -/
theorem slice_dig {k : IntKind} (n : Nat) (x : Int) (hx : x = ((n % 10 : Nat) : Int)) (W : World) :
    Sem.run Try.prog (Instr.slice 9 (.string { data := #[48, 49, 50, 51, 52, 53, 54, 55, 56, 57] }) (some (.int k x)) (some (.int k (x + 1))) none) W = .ok (.string (bt [dgt n])) W := by
  rw [run_slice_string W 9 { data := #[48, 49, 50, 51, 52, 53, 54, 55, 56, 57] } k k x (x + 1) Try.underlying9 (by omega) (by omega) (by show x + 1 ≤ 10; omega)]
  have h : n % 10 < 10 := Nat.mod_lt _ (by decide)
  unfold dgt
  generalize n % 10 = r at *
  subst hx
  congr 2
  have : r = 0 ∨ r = 1 ∨ r = 2 ∨ r = 3 ∨ r = 4 ∨ r = 5 ∨ r = 6 ∨ r = 7 ∨ r = 8 ∨ r = 9 := by omega
  rcases this with rfl | rfl | rfl | rfl | rfl | rfl | rfl | rfl | rfl | rfl <;> rfl
theorem dec_step (k : Nat) (X : Bs) : dec (k / 10) ++ X = (if k / 10 < 10 then [] else dec (k / 10 / 10)) ++ ([dgt (k / 10)] ++ X) := by
  by_cases h1 : k / 10 < 10
  · rw [if_pos h1, dec_small h1]; rfl
  · rw [if_neg h1, dec_great h1]; simp
set_option maxRecDepth 100000 in
set_option maxHeartbeats 400000 in
theorem digits_any (n : Nat) (w : World) (hn : n < 18446744073709551616) :
    Calls Try.prog 8 #[.int .u64 (n : Int)] w fun e w' => e = .returned (.string (bt (dec n))) ∧ w' = w := by
  have h20 : (dec n).length ≤ 20 := dec_short 19 n (by omega)
  obtain ⟨D, hD⟩ : ∃ D, D = bt [dgt n] := ⟨_, rfl⟩
  have hsl : ∀ W, Sem.run Try.prog (Instr.slice 9 (.string { data := #[48, 49, 50, 51, 52, 53, 54, 55, 56, 57] }) (some (.int .u64 ((n : Int) % 10))) (some (.int .u64 ((n : Int) % 10 + 1))) none) W = .ok (.string D) W := fun W => by rw [hD]; exact slice_dig n _ (by omega) W
  have H0 : Hid (dec n = (if n < 10 then [] else dec (n / 10)) ++ D.data.toList) := by
    show _ = _
    have e : D.data.toList = [dgt n] := by rw [hD]; rfl
    rw [e]
    by_cases h : n < 10
    · rw [if_pos h, dec_small h]; rfl
    · rw [if_neg h, dec_great h]
  have hDs : D.size ≤ 20 := by rw [hD]; exact Nat.le_of_lt (by decide : 1 < 20)
  clear hD
  go_enter Try.func8, Try.ntmps8
  go_wp2_with fail
  clear hsl
  go_loopg [0, 3] n (fun g v0 v3 wr => w = wr ∧ ∃ (k : Nat) (X : ByteArray), v0 = .int .u64 (k : Int) ∧ k = g ∧ k ≤ n ∧ v3 = .string X ∧ X.size ≤ 20 ∧ Hid (dec n = (if k < 10 then [] else dec (k / 10)) ++ X.data.toList))
  case atStart => exact ⟨rfl, n, D, rfl, rfl, Nat.le_refl _, rfl, hDs, H0⟩
  case round =>
    obtain ⟨rfl, k, X, rfl, rfl, hk, rfl, hX, hi⟩ := hrel
    clear H0
    by_cases h10 : k < 10
    · have h10' : ¬ (10 : Int) ≤ (k : Int) := by omega
      have hR : Hid (bt (dec n) = X) := by show _ = _; rw [unhide hi, if_pos h10]; rfl
      clear hi
      go_wp2_with fail
      go_ret
      exact ⟨by rw [unhide hR]; rfl, rfl⟩
    · have h10' : (10 : Int) ≤ (k : Int) := by omega
      obtain ⟨q, hq⟩ : ∃ q : Nat, (k : Int) / 10 = (q : Int) := ⟨k / 10, by omega⟩
      have hq2 : q = k / 10 := by omega
      obtain ⟨E, hE⟩ : ∃ E, E = bt [dgt q] := ⟨_, rfl⟩
      have hsl : ∀ W, Sem.run Try.prog (Instr.slice 9 (.string { data := #[48, 49, 50, 51, 52, 53, 54, 55, 56, 57] }) (some (.int .u64 ((q : Int) % 10))) (some (.int .u64 ((q : Int) % 10 + 1))) none) W = .ok (.string E) W := fun W => by rw [hE]; exact slice_dig q _ (by omega) W
      have hi2 : Hid (dec n = (if q < 10 then [] else dec (q / 10)) ++ (E ++ X).data.toList) := by
        show _ = _
        rw [unhide hi, if_neg h10, hq2, dec_step k _, hE, hq2]
        congr 1
      have hEs : E.size = 1 := by rw [hE]; rfl
      have hX2 : (E ++ X).size ≤ 20 := by
        have h1 := congrArg List.length (unhide hi2)
        rw [List.length_append, show (E ++ X).data.toList.length = (E ++ X).size from rfl] at h1
        omega
      have hqk : q < k := by omega
      clear hq2 hE hi h10
      go_wp2_with fail
      go_roundg q
      case measure => omega
      case rel => exact ⟨rfl, q, E ++ X, rfl, rfl, by omega, rfl, hX2, hi2⟩
theorem app_one (D : ByteArray) (c : UInt8) : bs (D ++ ⟨#[c]⟩) = bs D ++ [c] := by simp [bs]
set_option maxRecDepth 100000 in
set_option maxHeartbeats 1000000 in
theorem told_walk (n : Nat) (w : World) (hn : n < 18446744073709551616) :
    Calls Try.prog 4 #[.int .u64 (n : Int)] w fun e w' => e = .returned (.bool true) ∧ Below w.heap.size w w' := by
  have A := hide alive_any
  have CD := hide (digits_any n w hn)
  have h20 : (dec n).length ≤ 20 := dec_short 19 n (by omega)
  have dec_n : nval (dec n) = (n : Int) := (dec_all (n + 1) n (by omega)).2.1
  obtain ⟨D, hD⟩ : ∃ D, D = bt (dec n) := ⟨_, rfl⟩
  have hDb : bs D = dec n := by rw [hD]; rfl
  have hDs : D.size ≤ 20 := by rw [← bs_len, hDb]; exact h20
  have C1 := hide (fun W => size_any D W (by omega))
  have z2 : (D ++ (⟨#[107]⟩ : ByteArray)).size ≤ 21 := by rw [← bs_len, app_one, List.length_append, bs_len]; simp; omega
  have z3 : (D ++ (⟨#[98]⟩ : ByteArray)).size ≤ 21 := by rw [← bs_len, app_one, List.length_append, bs_len]; simp; omega
  have C2 := hide (fun W => size_any (D ++ ⟨#[107]⟩) W (by omega))
  have C3 := hide (fun W => size_any (D ++ ⟨#[98]⟩) W (by omega))
  rw [hDb, sz_plain] at C1
  rw [app_one, hDb, sz_k] at C2
  rw [app_one, hDb, sz_b] at C3
  rw [← hD] at CD
  have hsz : ¬ 9223372036854775807 < D.size + 1 := by omega
  have hcm : (n : Int) * 512 = 512 * (n : Int) := Int.mul_comm _ _
  clear hD hDb h20 z2 z3
  by_cases h1 : n ≤ 2097151
  · have hR : Hid (n ≤ 2097151) := h1
    have g1 : (n : Int) ≤ 2147483647 := by omega
    have g2 : (n : Int) ≤ 2097151 := by omega
    have g3 : (n : Int) ≤ 4194303 := by omega
    rw [finA_yes ((fin_dec n 1 (by omega)).trans (by rw [decide_eq_true (by omega)])), dec_n] at C1
    rw [finA_yes ((fin_dec n 1024 (by omega)).trans (by rw [decide_eq_true (by omega)])), dec_n] at C2
    rw [finA_yes ((fin_dec n 512 (by omega)).trans (by rw [decide_eq_true (by omega)])), dec_n] at C3
    clear dec_n
    clear hR
    go_enter Try.func4, Try.ntmps4
    go_wp2_with fail
    refine (unhide CD).mono ?_
    rintro e w1 ⟨rfl, rfl⟩
    go_wp2_with fail
    refine (unhide C1 _).mono ?_
    rintro e w2 ⟨rfl, rfl⟩
    go_wp2_with fail
    refine (unhide C2 _).mono ?_
    rintro e w3 ⟨rfl, rfl⟩
    go_wp2_with fail
    refine (unhide C3 _).mono ?_
    rintro e w4 ⟨rfl, rfl⟩
    go_wp2_with (go_at_call 5; refine (unhide A _).mono ?_; rintro e w5 ⟨rfl, hb5⟩; have HB5 := hide hb5; clear hb5)
    go_ret
    exact ⟨rfl, unhide HB5⟩
  by_cases h2 : n ≤ 4194303
  · have hR : Hid (n ≤ 4194303) := h2
    have g1 : (n : Int) ≤ 2147483647 := by omega
    have g2 : ¬ (n : Int) ≤ 2097151 := by omega
    have g3 : (n : Int) ≤ 4194303 := by omega
    rw [finA_yes ((fin_dec n 1 (by omega)).trans (by rw [decide_eq_true (by omega)])), dec_n] at C1
    rw [finA_no ((fin_dec n 1024 (by omega)).trans (by rw [decide_eq_false (by omega)]))] at C2
    rw [finA_yes ((fin_dec n 512 (by omega)).trans (by rw [decide_eq_true (by omega)])), dec_n] at C3
    clear dec_n
    clear hR
    go_enter Try.func4, Try.ntmps4
    go_wp2_with fail
    refine (unhide CD).mono ?_
    rintro e w1 ⟨rfl, rfl⟩
    go_wp2_with fail
    refine (unhide C1 _).mono ?_
    rintro e w2 ⟨rfl, rfl⟩
    go_wp2_with fail
    refine (unhide C2 _).mono ?_
    rintro e w3 ⟨rfl, rfl⟩
    go_wp2_with fail
    refine (unhide C3 _).mono ?_
    rintro e w4 ⟨rfl, rfl⟩
    go_wp2_with (go_at_call 5; refine (unhide A _).mono ?_; rintro e w5 ⟨rfl, hb5⟩; have HB5 := hide hb5; clear hb5)
    go_ret
    exact ⟨rfl, unhide HB5⟩
  by_cases h3 : n ≤ 2147483647
  · have hR : Hid (n ≤ 2147483647) := h3
    have g1 : (n : Int) ≤ 2147483647 := by omega
    have g2 : ¬ (n : Int) ≤ 2097151 := by omega
    have g3 : ¬ (n : Int) ≤ 4194303 := by omega
    rw [finA_yes ((fin_dec n 1 (by omega)).trans (by rw [decide_eq_true (by omega)])), dec_n] at C1
    rw [finA_no ((fin_dec n 1024 (by omega)).trans (by rw [decide_eq_false (by omega)]))] at C2
    rw [finA_no ((fin_dec n 512 (by omega)).trans (by rw [decide_eq_false (by omega)]))] at C3
    clear dec_n
    clear hR
    go_enter Try.func4, Try.ntmps4
    go_wp2_with fail
    refine (unhide CD).mono ?_
    rintro e w1 ⟨rfl, rfl⟩
    go_wp2_with fail
    refine (unhide C1 _).mono ?_
    rintro e w2 ⟨rfl, rfl⟩
    go_wp2_with fail
    refine (unhide C2 _).mono ?_
    rintro e w3 ⟨rfl, rfl⟩
    go_wp2_with fail
    refine (unhide C3 _).mono ?_
    rintro e w4 ⟨rfl, rfl⟩
    go_wp2_with (go_at_call 5; refine (unhide A _).mono ?_; rintro e w5 ⟨rfl, hb5⟩; have HB5 := hide hb5; clear hb5)
    go_ret
    exact ⟨rfl, unhide HB5⟩
  · have hR : Hid (¬ n ≤ 2147483647) := h3
    have g1 : ¬ (n : Int) ≤ 2147483647 := by omega
    have g2 : ¬ (n : Int) ≤ 2097151 := by omega
    have g3 : ¬ (n : Int) ≤ 4194303 := by omega
    rw [finA_no ((fin_dec n 1 (by omega)).trans (by rw [decide_eq_false (by omega)]))] at C1
    rw [finA_no ((fin_dec n 1024 (by omega)).trans (by rw [decide_eq_false (by omega)]))] at C2
    rw [finA_no ((fin_dec n 512 (by omega)).trans (by rw [decide_eq_false (by omega)]))] at C3
    clear dec_n
    clear hR
    go_enter Try.func4, Try.ntmps4
    go_wp2_with fail
    refine (unhide CD).mono ?_
    rintro e w1 ⟨rfl, rfl⟩
    go_wp2_with fail
    refine (unhide C1 _).mono ?_
    rintro e w2 ⟨rfl, rfl⟩
    go_wp2_with fail
    refine (unhide C2 _).mono ?_
    rintro e w3 ⟨rfl, rfl⟩
    go_wp2_with fail
    refine (unhide C3 _).mono ?_
    rintro e w4 ⟨rfl, rfl⟩
    go_wp2_with (go_at_call 5; refine (unhide A _).mono ?_; rintro e w5 ⟨rfl, hb5⟩; have HB5 := hide hb5; clear hb5)
    go_ret
    exact ⟨rfl, unhide HB5⟩
theorem told_int (x : Int) (w : World) (h : (Lit.int .u64 x).wf = true) :
    Calls Try.prog 4 #[.int .u64 x] w fun e w' => e = .returned (.bool true) ∧ Below w.heap.size w w' := by
  have h2 : 0 ≤ x ∧ x < 18446744073709551616 := by
    simp [Lit.wf] at h
    have h1 : IntKind.u64.min = 0 := by decide
    have h2 : IntKind.u64.max = 18446744073709551615 := by decide
    rw [h1, h2] at h
    omega
  obtain ⟨n, rfl⟩ : ∃ n : Nat, x = n := ⟨x.toNat, by omega⟩
  exact told_walk n w (by omega)
end Go.Proofs.Ytebnmjelelkcmab.Bk
