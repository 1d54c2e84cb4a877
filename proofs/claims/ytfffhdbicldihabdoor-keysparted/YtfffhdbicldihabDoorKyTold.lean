/- Numbers told in digits, and how they compare. -/
import Derived.Test.YtfffhdbicldihabDoorKyRefPlain
namespace Go.Proofs.YtfffhdbicldihabDoor.Ky
open Go.RowKit

/-- a number's last digit -/
def dig (n : Nat) : UInt8 := UInt8.ofNat (48 + n % 10)
theorem dig_nat (n : Nat) : (dig n).toNat = 48 + n % 10 := by
  unfold dig; rw [UInt8.toNat_ofNat']; omega
theorem dig_dg (n : Nat) : dg (dig n) = true := by
  have h := dig_nat n
  unfold dg
  simp only [Bool.and_eq_true, decide_eq_true_eq, UInt8.le_iff_toNat_le, h]
  exact ⟨by show 48 ≤ _; omega, by show _ ≤ 57; omega⟩
theorem dig_lt (n m : Nat) : dig n < dig m ↔ n % 10 < m % 10 := by
  rw [UInt8.lt_iff_toNat_lt, dig_nat, dig_nat]; omega
/-- a number's digits -/
def dec (n : Nat) : Bs := if _h : n < 10 then [dig n] else dec (n / 10) ++ [dig n]
termination_by n
decreasing_by omega
theorem dec_small {n : Nat} (h : n < 10) : dec n = [dig n] := by rw [dec, dif_pos h]
theorem dec_great {n : Nat} (h : ¬ n < 10) : dec n = dec (n / 10) ++ [dig n] := by rw [dec, dif_neg h]
theorem dec_dg (n : Nat) : ∀ c ∈ dec n, dg c = true := by
  induction n using Nat.strongRecOn with
  | _ n ih =>
    by_cases h : n < 10
    · rw [dec_small h]; intro c hc; simp at hc; subst hc; exact dig_dg n
    · rw [dec_great h]; intro c hc
      rcases List.mem_append.1 hc with hc | hc
      · exact ih (n / 10) (by omega) c hc
      · simp at hc; subst hc; exact dig_dg n
theorem dec_head (n : Nat) (h0 : 0 < n) : ∃ c r, dec n = c :: r ∧ c ≠ 48 := by
  induction n using Nat.strongRecOn with
  | _ n ih =>
    by_cases h : n < 10
    · refine ⟨_, _, dec_small h, fun e => ?_⟩
      have := dig_nat n
      rw [e, show (48 : UInt8).toNat = 48 from rfl] at this
      omega
    · obtain ⟨c, r, e, hc⟩ := ih (n / 10) (by omega) (by omega)
      exact ⟨c, r ++ [dig n], by rw [dec_great h, e]; rfl, hc⟩
theorem dec_len (n : Nat) : 0 < (dec n).length := by
  by_cases h : n < 10
  · rw [dec_small h]; simp
  · rw [dec_great h]; simp
/-- by length, then by digits -/
def cmpW (a b : Bs) : Int := if cmpI a.length b.length = 0 then cmpL a b else cmpI a.length b.length
theorem cmpL_snoc : ∀ (a b : Bs) (x y : UInt8), a.length = b.length → cmpL (a ++ [x]) (b ++ [y]) = if cmpL a b = 0 then cmpL [x] [y] else cmpL a b
  | [], [], x, y, _ => by simp [cmpL]
  | c :: a, d :: b, x, y, h => by
    have i := cmpL_snoc a b x y (by simpa using h)
    simp only [List.cons_append, cmpL] at i ⊢
    by_cases h1 : c < d
    · simp [h1]
    · by_cases h2 : d < c
      · simp [h1, h2]
      · simp only [h1, h2, if_false]; exact i
theorem cmp_dig (n m : Nat) : cmpL [dig n] [dig m] = cmpI (n % 10 : Nat) (m % 10 : Nat) := by
  have h1 := dig_lt n m
  have h2 := dig_lt m n
  unfold cmpL cmpI
  simp only [h1, h2, cmpL, Int.ofNat_lt]
theorem cmp_dec : ∀ n m : Nat, cmpW (dec n) (dec m) = cmpI n m := by
  intro n
  induction n using Nat.strongRecOn with
  | _ n ih =>
    intro m
    by_cases h : n < 10
    · by_cases k : m < 10
      · rw [dec_small h, dec_small k]
        have := cmp_dig n m
        rw [Nat.mod_eq_of_lt h, Nat.mod_eq_of_lt k] at this
        simp only [cmpW, List.length_singleton, this]
        simp [cmpI]
      · rw [dec_small h, dec_great k]
        have := dec_len (m / 10)
        unfold cmpW cmpI
        simp only [List.length_append, List.length_singleton]
        rw [if_pos (show ((1 : Nat) : Int) < ((dec (m / 10)).length + 1 : Nat) by omega)]
        rw [if_neg (by decide), if_pos (by omega)]
    · by_cases k : m < 10
      · rw [dec_small k, dec_great h]
        have := dec_len (n / 10)
        unfold cmpW cmpI
        simp only [List.length_append, List.length_singleton]
        rw [if_neg (show ¬ (((dec (n / 10)).length + 1 : Nat) : Int) < ((1 : Nat) : Int) by omega), if_pos (show ((1 : Nat) : Int) < ((dec (n / 10)).length + 1 : Nat) by omega)]
        rw [if_neg (by decide), if_neg (by omega), if_pos (by omega)]
      · have i := ih (n / 10) (by omega) (m / 10)
        have d := cmp_dig n m
        rw [dec_great h, dec_great k]
        unfold cmpW at i ⊢
        have el : cmpI ((dec (n / 10) ++ [dig n]).length : Nat) ((dec (m / 10) ++ [dig m]).length : Nat) = cmpI ((dec (n / 10)).length : Nat) ((dec (m / 10)).length : Nat) := by
          simp only [cmpI, List.length_append, List.length_singleton]
          congr 1
          · apply propext; omega
          · congr 1; apply propext; omega
        rw [el]
        by_cases z : cmpI ((dec (n / 10)).length : Nat) ((dec (m / 10)).length : Nat) = 0
        · rw [if_pos z] at i ⊢
          have zl : (dec (n / 10)).length = (dec (m / 10)).length := by unfold cmpI at z; split at z <;> (try split at z) <;> omega
          rw [cmpL_snoc _ _ _ _ zl, i, d]
          unfold cmpI
          repeat' split
          all_goals omega
        · rw [if_neg z] at i ⊢
          rw [i] at z ⊢
          unfold cmpI at z ⊢
          repeat' split
          all_goals omega
/-- a whole number's digits, none if it is nought -/
def whole (n : Nat) : Bs := if n = 0 then [] else dec n
theorem cmp_whole (n m : Nat) : cmpW (whole n) (whole m) = cmpI n m := by
  unfold whole
  by_cases h : n = 0
  · by_cases k : m = 0
    · subst h k; simp [cmpW, cmpI, cmpL]
    · have := dec_len m
      rw [if_pos h, if_neg k]
      unfold cmpW cmpI
      simp only [List.length_nil]
      rw [if_pos (show ((0 : Nat) : Int) < ((dec m).length : Nat) by omega), if_neg (by decide), if_pos (by omega)]
  · by_cases k : m = 0
    · have := dec_len n
      rw [if_neg h, if_pos k]
      unfold cmpW cmpI
      simp only [List.length_nil]
      rw [if_neg (show ¬ ((dec n).length : Int) < ((0 : Nat) : Int) by omega), if_pos (show ((0 : Nat) : Int) < ((dec n).length : Nat) by omega), if_neg (by decide), if_neg (by omega), if_pos (by omega)]
    · rw [if_neg h, if_neg k]; exact cmp_dec n m
theorem noughts_dec (n : Nat) : noughts (dec n) = whole n := by
  unfold whole
  by_cases h : n = 0
  · subst h; rw [dec_small (by decide)]; rfl
  · obtain ⟨c, r, e, hc⟩ := dec_head n (by omega)
    rw [if_neg h, e]; exact noughts_stop r hc
/-- noughts -/
def nl (k : Nat) : Bs := List.replicate k 48
theorem noughts_nl (k : Nat) (l : Bs) : noughts (nl k ++ l) = noughts l := by
  induction k with
  | zero => rfl
  | succ k ih => unfold nl at *; rw [List.replicate_succ, List.cons_append, noughts_step, ih]
theorem behind_nl (k : Nat) : behind (nl k) = [] := by
  induction k with
  | zero => rfl
  | succ k ih => unfold nl at *; rw [List.replicate_succ', behind_step, ih]
theorem take_run {l r : Bs} (hl : ∀ c ∈ l, dg c = true) (hr : r = [] ∨ ∃ c t, r = c :: t ∧ dg c = false) : (l ++ r).takeWhile dg = l ∧ (l ++ r).dropWhile dg = r := by
  induction l with
  | nil =>
    rcases hr with rfl | ⟨c, t, rfl, hc⟩
    · exact ⟨rfl, rfl⟩
    · simp [hc]
  | cons a l ih =>
    have ha := hl a (by simp)
    have i := ih (fun c hc => hl c (by simp [hc]))
    simp [ha, i.1, i.2]
theorem nl_dg (k : Nat) : ∀ c ∈ nl k, dg c = true := by
  intro c hc; unfold nl at hc; rw [(List.mem_replicate.1 hc).2]; rfl
end Go.Proofs.YtfffhdbicldihabDoor.Ky
