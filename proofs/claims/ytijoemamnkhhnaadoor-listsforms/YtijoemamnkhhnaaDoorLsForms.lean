/- The law ListsForms: walked. -/
import Derived.Test.YtijoemamnkhhnaaDoorLsAlive
namespace Go.Proofs.YtijoemamnkhhnaaDoor.Ls
open Go.RowKit Go.Shelf

def ten : ByteArray := { data := #[48, 49, 50, 51, 52, 53, 54, 55, 56, 57] }
theorem ten_at (d : Nat) (h : d < 10) : bs (ten.extract d (d + 1)) = [UInt8.ofNat (48 + d)] := by
  match d, h with
  | 0, _ => decide +kernel
  | 1, _ => decide +kernel
  | 2, _ => decide +kernel
  | 3, _ => decide +kernel
  | 4, _ => decide +kernel
  | 5, _ => decide +kernel
  | 6, _ => decide +kernel
  | 7, _ => decide +kernel
  | 8, _ => decide +kernel
  | 9, _ => decide +kernel
/-- what holds between the rounds: m is what is left, t the digits behind it -/
def Dg (n m : Nat) (t : List UInt8) : Prop := Lib.decDigits n = (if m < 10 then [] else Lib.decDigits (m / 10)) ++ t
theorem Dg.start (n : Nat) : Dg n n [UInt8.ofNat (48 + n % 10)] := by
  unfold Dg
  by_cases h : n < 10
  · rw [if_pos h, dec_small n h, Nat.mod_eq_of_lt h]; rfl
  · rw [if_neg h, dec_big n h]
theorem Dg.step {n m : Nat} {t : List UInt8} (h : Dg n m t) (hm : ¬ m < 10) : Dg n (m / 10) (UInt8.ofNat (48 + m / 10 % 10) :: t) := by
  unfold Dg at h ⊢
  rw [if_neg hm] at h
  rw [h]
  by_cases h2 : m / 10 < 10
  · rw [if_pos h2, dec_small _ h2, Nat.mod_eq_of_lt h2]; rfl
  · rw [if_neg h2, dec_big _ h2, List.append_assoc]; rfl
theorem Dg.len {n m : Nat} {t : List UInt8} (h : Dg n m t) (hn : n < 18446744073709551616) : t.length ≤ 20 := by
  have h1 := Lib.nDigits_le20 n hn
  rw [← Lib.decDigits_length, h, List.length_append] at h1
  omega
theorem Dg.fin {n m : Nat} {t : List UInt8} (h : Dg n m t) (hm : m < 10) : t = Lib.decDigits n := by
  unfold Dg at h; rw [if_pos hm] at h; rw [h]; rfl

set_option maxHeartbeats 400000 in
theorem digits_any (n : Nat) (w : World) (h : n ≤ 4294967295) :
    Calls Tryd.prog 18 #[.int .u32 n] w fun e w' => (∃ s : ByteArray, e = .returned (.string s) ∧ bs s = Lib.decDigits n ∧ s.size ≤ 20) ∧ w' = w := by
  have h1 : (n : Int) ≤ 4294967295 := by omega
  go_enter Tryd.func18, Tryd.ntmps18
  go_wp2
  go_loop [0, 3] (fun v s => ∃ (m : Nat) (t : ByteArray), m ≤ n ∧ v = .int .u32 m ∧ s = .string t ∧ t.size ≤ 20 ∧ Hid (Dg n m (bs t))) (fun v _ => (intOf v).toNat)
  case atStart =>
    refine ⟨n, _, Nat.le_refl _, rfl, rfl, ?_, ?_⟩
    · show (ten.extract (n % 10) (n % 10 + 1)).size ≤ 20
      rw [← bs_len, ten_at (n % 10) (by omega)]; simp
    · show Dg n n (bs (ten.extract (n % 10) (n % 10 + 1)))
      rw [ten_at (n % 10) (by omega)]
      exact Dg.start n
  case round =>
    obtain ⟨m, t, hmn, rfl, rfl, hts, hD⟩ := hrel
    by_cases hm : 10 ≤ (m : Int)
    · have hst := (unhide hD).step (by omega)
      have hcat : bs (ten.extract (m / 10 % 10) (m / 10 % 10 + 1) ++ t) = UInt8.ofNat (48 + m / 10 % 10) :: bs t := by
        rw [show bs (ten.extract (m / 10 % 10) (m / 10 % 10 + 1) ++ t) = bs (ten.extract (m / 10 % 10) (m / 10 % 10 + 1)) ++ bs t by simp [bs], ten_at (m / 10 % 10) (by omega)]; rfl
      have hlen := hst.len (by omega)
      have hsz : (ten.extract (m / 10 % 10) (m / 10 % 10 + 1) ++ t).size ≤ 20 := by rw [← bs_len, hcat]; exact hlen
      have HS : Hid (Dg n (m / 10) (bs (ten.extract (m / 10 % 10) (m / 10 % 10 + 1) ++ t))) := by rw [hcat]; exact hst
      have HZ := hide hsz
      clear hst hcat hlen hsz
      go_wp2
      go_round
      case rel => exact ⟨m / 10, _, by omega, by go_num, rfl, unhide HZ, HS⟩
      case measure => simp [intOf]; omega
    · go_wp2
      go_ret
      exact ⟨⟨t, rfl, (unhide hD).fin (by omega), hts⟩, rfl⟩

/-! ### the four forms, read -/
theorem dd_clean (n : Nat) : ∀ c ∈ Lib.decDigits n, c ≠ 45 ∧ c ≠ 44 := fun c hc => dig_ne (List.all_eq_true.1 (decDigits_all n) c hc)
theorem dd_ne (n : Nat) : Lib.decDigits n ≠ [] := by
  intro e
  have h1 := Lib.decDigits_length n
  have h2 := Lib.nDigits_pos n
  rw [e] at h1; simp at h1; omega
theorem one_read {s : List UInt8} (h : ∀ c ∈ s, c ≠ 44) (hl : s.length ≤ 4096) : (∀ r, item s = some r → parseL s = [r] ∧ parseE s = 0) ∧ (item s = none → parseL s = [] ∧ parseE s = 5) := by
  refine ⟨fun r hr => parse_some hl ?_, fun hn => parse_none hl ?_⟩
  · unfold parse; rw [splitC_end h, items, hr]; rfl
  · unfold parse; rw [splitC_end h, items, hn]
def ok (n : Nat) : Prop := 1 ≤ n ∧ n ≤ 2147483647
theorem pl_ok {n : Nat} (h : ok n) : place (Lib.decDigits n) = n := place_dec n h.1 h.2
theorem pl_no {n : Nat} (h : ¬ ok n) : place (Lib.decDigits n) = 0 := place_dec_no n (by unfold ok at h; omega)
theorem clean1 (f : Nat) : ∀ c ∈ Lib.decDigits f, c ≠ 44 := fun c hc => (dd_clean f c hc).2
theorem clean2 (f t : Nat) : ∀ c ∈ Lib.decDigits f ++ 45 :: Lib.decDigits t, c ≠ 44 := by
  intro c hc
  rcases List.mem_append.1 hc with hc | hc
  · exact clean1 f c hc
  · rcases List.mem_cons.1 hc with rfl | hc
    · decide
    · exact clean1 t c hc
theorem clean3 (f : Nat) : ∀ c ∈ Lib.decDigits f ++ [45], c ≠ 44 := by
  intro c hc
  rcases List.mem_append.1 hc with hc | hc
  · exact clean1 f c hc
  · simp at hc; subst hc; decide
theorem clean4 (t : Nat) : ∀ c ∈ 45 :: Lib.decDigits t, c ≠ 44 := by
  intro c hc
  rcases List.mem_cons.1 hc with rfl | hc
  · decide
  · exact clean1 t c hc
theorem q1 (f : Nat) : item (Lib.decDigits f) = if place (Lib.decDigits f) = 0 then none else some ((place (Lib.decDigits f) : Int), (place (Lib.decDigits f) : Int)) := item_one (fun c hc => (dd_clean f c hc).1)
theorem q2 (f t : Nat) : item (Lib.decDigits f ++ 45 :: Lib.decDigits t) = if place (Lib.decDigits f) = 0 ∨ place (Lib.decDigits t) < place (Lib.decDigits f) then none else some ((place (Lib.decDigits f) : Int), (place (Lib.decDigits t) : Int)) := item_both (fun c hc => (dd_clean f c hc).1) (dd_ne f) (dd_ne t)
theorem q3 (f : Nat) : item (Lib.decDigits f ++ [45]) = if place (Lib.decDigits f) = 0 then none else some ((place (Lib.decDigits f) : Int), (0 : Int)) := item_from (fun c hc => (dd_clean f c hc).1) (dd_ne f)
theorem q4 (t : Nat) : item (45 :: Lib.decDigits t) = if place (Lib.decDigits t) = 0 then none else some ((1 : Int), (place (Lib.decDigits t) : Int)) := item_to

/-- what the four parses answer -/
structure Fm (f t : Nat) (one two on up : List R) (e1 e2 e3 e4 : Int) : Prop where
  p1 : parseL (Lib.decDigits f) = one ∧ parseE (Lib.decDigits f) = e1
  p2 : parseL (Lib.decDigits f ++ 45 :: Lib.decDigits t) = two ∧ parseE (Lib.decDigits f ++ 45 :: Lib.decDigits t) = e2
  p3 : parseL (Lib.decDigits f ++ [45]) = on ∧ parseE (Lib.decDigits f ++ [45]) = e3
  p4 : parseL (45 :: Lib.decDigits t) = up ∧ parseE (45 :: Lib.decDigits t) = e4
theorem dl (n : Nat) (h : n ≤ 4294967295) : (Lib.decDigits n).length ≤ 20 := by rw [Lib.decDigits_length]; exact Lib.nDigits_le20 n (by omega)
theorem Fm.of {f t : Nat} {one two on up : List R} {e1 e2 e3 e4 : Int} (hf : f ≤ 4294967295) (ht : t ≤ 4294967295)
    (h1 : (ok f ∧ one = [((f : Int), (f : Int))] ∧ e1 = 0 ∧ on = [((f : Int), 0)] ∧ e3 = 0) ∨ (¬ ok f ∧ one = [] ∧ e1 = 5 ∧ on = [] ∧ e3 = 5))
    (h2 : (ok f ∧ ok t ∧ f ≤ t ∧ two = [((f : Int), (t : Int))] ∧ e2 = 0) ∨ (¬ (ok f ∧ ok t ∧ f ≤ t) ∧ two = [] ∧ e2 = 5))
    (h4 : (ok t ∧ up = [(1, (t : Int))] ∧ e4 = 0) ∨ (¬ ok t ∧ up = [] ∧ e4 = 5)) : Fm f t one two on up e1 e2 e3 e4 := by
  have l1 := dl f hf
  have l2 := dl t ht
  have r1 := one_read (clean1 f) (by omega)
  have r2 := one_read (clean2 f t) (by simp; omega)
  have r3 := one_read (clean3 f) (by simp; omega)
  have r4 := one_read (clean4 t) (by simp; omega)
  rw [q1] at r1
  rw [q2] at r2
  rw [q3] at r3
  rw [q4] at r4
  refine ⟨?_, ?_, ?_, ?_⟩
  · rcases h1 with ⟨h, rfl, rfl, rfl, rfl⟩ | ⟨h, rfl, rfl, rfl, rfl⟩
    · rw [pl_ok h, if_neg (by unfold ok at h; omega)] at r1; exact r1.1 _ rfl
    · rw [pl_no h, if_pos rfl] at r1; exact r1.2 rfl
  · rcases h2 with ⟨h, h', hle, rfl, rfl⟩ | ⟨h, rfl, rfl⟩
    · rw [pl_ok h, pl_ok h', if_neg (by unfold ok at h; omega)] at r2; exact r2.1 _ rfl
    · refine r2.2 (if_pos ?_)
      by_cases hf : ok f
      · by_cases htt : ok t
        · right; rw [pl_ok hf, pl_ok htt]; have : ¬ f ≤ t := fun hh => h ⟨hf, htt, hh⟩; omega
        · right; rw [pl_ok hf, pl_no htt]; unfold ok at hf; omega
      · left; exact pl_no hf
  · rcases h1 with ⟨h, rfl, rfl, rfl, rfl⟩ | ⟨h, rfl, rfl, rfl, rfl⟩
    · rw [pl_ok h, if_neg (by unfold ok at h; omega)] at r3; exact r3.1 _ rfl
    · rw [pl_no h, if_pos rfl] at r3; exact r3.2 rfl
  · rcases h4 with ⟨h, rfl, rfl⟩ | ⟨h, rfl, rfl⟩
    · rw [pl_ok h, if_neg (by unfold ok at h; omega)] at r4; exact r4.1 _ rfl
    · rw [pl_no h, if_pos rfl] at r4; exact r4.2 rfl
theorem ret_bl {b : Bool} (h : b = true) : Ending.returned (.bool b) = .returned (.bool true) := by rw [h]
def inRp (n : Int) (r : R) : Prop := r.1 ≤ n ∧ (r.2 = 0 ∨ n ≤ r.2)
theorem hasd {l : List R} {n : Int} {b : Bool} (h : match l with | [] => b = false | r :: _ => l.length = 1 ∧ (inRp n r ↔ b = true)) : has l n = b := by
  cases l with
  | nil => simp at h; rw [h]; rfl
  | cons r l =>
    obtain ⟨h1, h2⟩ := h
    have : l = [] := List.eq_nil_of_length_eq_zero (by simpa using h1)
    subst this
    rw [Bool.eq_iff_iff, ← h2]
    simp [has, inR, inRp]
theorem cat2 (a b : ByteArray) : bs (a ++ { data := #[45] } ++ b) = bs a ++ 45 :: bs b := by simp [bs]
theorem cat3 (a : ByteArray) : bs (a ++ { data := #[45] }) = bs a ++ [45] := by simp [bs]
theorem cat4 (b : ByteArray) : bs ({ data := #[45] } ++ b) = 45 :: bs b := by simp [bs]
theorem sz2 (a b : ByteArray) : (a ++ { data := #[45] } ++ b).size = a.size + 1 + b.size := by rw [← bs_len, cat2]; simp [bs]; omega
theorem sz3 (a : ByteArray) : (a ++ { data := #[45] }).size = a.size + 1 := by rw [← bs_len, cat3]; simp [bs]
theorem sz4 (b : ByteArray) : ({ data := #[45] } ++ b).size = b.size + 1 := by rw [← bs_len, cat4]; simp [bs]

end Go.Proofs.YtijoemamnkhhnaaDoor.Ls
