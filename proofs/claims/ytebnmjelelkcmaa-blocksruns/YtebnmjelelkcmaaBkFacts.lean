/- What follows of blocks, in plain words. -/
import Derived.Test.YtebnmjelelkcmaaBkPlain
namespace Go.Proofs.Ytebnmjelelkcmaa.Bk
open Go.RowKit Cu

theorem ch_mul (n : Nat) (hn : 1 ≤ n) : ∀ (f : Nat) (s : Bs), s.length ≤ f → n * (ch n s).length ≤ s.length + (n - 1)
  | 0, s, h => by rw [ch_end n s (by omega)]; simp
  | f + 1, s, h => by
    by_cases h0 : s.length = 0
    · rw [ch_end n s h0]; simp
    · rw [ch_cons n hn s (by omega), List.length_cons, Nat.mul_add, Nat.mul_one]
      have ih := ch_mul n hn f (s.drop n) (by rw [List.length_drop]; omega)
      rw [List.length_drop] at ih
      by_cases hl : n ≤ s.length
      · omega
      · rw [show ch n (s.drop n) = [] from ch_end n _ (by rw [List.length_drop]; omega)]
        simp; omega
theorem takeC_len {α : Type} (c : Int) (l : List α) : (takeC c l).length ≤ l.length := by
  unfold takeC; split
  · exact Nat.le_refl _
  · rw [List.length_take]; omega
theorem went_le2 (p : Pl) (s : Bs) (h : 1 ≤ p.i) : (went p (tkn p s)).length ≤ s.length + p.i.toNat := by
  have h1 := went_len p (tkn p s) (fun b hb => (tkn_mem p s h b hb).2)
  have h2 := ch_mul p.i.toNat (by omega) _ (s.drop (p.sk * p.i).toNat) (Nat.le_refl _)
  have h3 : (tkn p s).length ≤ (ch p.i.toNat (s.drop (p.sk * p.i).toNat)).length := takeC_len _ _
  have h4 := Nat.mul_le_mul_left p.i.toNat h3
  rw [List.length_drop] at h2
  omega
theorem ch_split (n : Nat) (hn : 1 ≤ n) : ∀ (k : Nat) (s : Bs), ch n s = (ch n s).take k ++ ch n (s.drop (k * n))
  | 0, s => by simp
  | k + 1, s => by
    by_cases h0 : s.length = 0
    · rw [List.eq_nil_of_length_eq_zero h0]; simp [ch_nil]
    · have ih := ch_split n hn k (s.drop n)
      rw [List.drop_drop, show n + k * n = (k + 1) * n from by rw [Nat.add_mul, Nat.one_mul]; omega] at ih
      rw [ch_cons n hn s (by omega), List.take_succ_cons, List.cons_append, ← ih]
theorem takeC_neg {α : Type} (l : List α) : takeC (-1) l = l := by simp [takeC]
theorem takeC_nat {α : Type} (k : Nat) (l : List α) : takeC (k : Int) l = l.take k := by
  unfold takeC
  rw [if_neg (by omega), Int.toNat_natCast]
theorem went_app (p : Pl) (a b : List Bs) : went p (a ++ b) = went p a ++ went p b := by simp [went]
theorem whole_app (n : Nat) (a b : List Bs) : whole n (a ++ b) = whole n a + whole n b := by simp [whole]
theorem parted_app (n : Nat) (a b : List Bs) : parted n (a ++ b) = parted n a + parted n b := by simp [parted]
theorem ch_map (n : Nat) (hn : 1 ≤ n) (g : Bs → Bs) (hg : ∀ b, (g b).length = b.length) : ∀ (f : Nat) (s : Bs), s.length ≤ f → ch n ((ch n s).map g).flatten = (ch n s).map g
  | 0, s, h => by rw [ch_end n s (by omega)]; rfl
  | f + 1, s, h => by
    by_cases h0 : s.length = 0
    · rw [ch_end n s h0]; rfl
    · rw [ch_cons n hn s (by omega), List.map_cons, List.flatten_cons]
      have ih := ch_map n hn g hg f (s.drop n) (by rw [List.length_drop]; omega)
      have hl : (g (s.take n)).length = min n s.length := by rw [hg, List.length_take]
      rw [ch_cons n hn _ (by rw [List.length_append, hl]; omega)]
      by_cases hx : n ≤ s.length
      · have hl' : (g (s.take n)).length = n := by omega
        rw [List.take_append_of_le_length (by omega), List.take_of_length_le (by omega), List.drop_append_of_le_length (by omega), List.drop_of_length_le (by omega), List.nil_append, ih]
      · rw [show ch n (s.drop n) = [] from ch_end n _ (by rw [List.length_drop]; omega)]
        simp only [List.map_nil, List.flatten_nil, List.append_nil]
        rw [List.take_of_length_le (l := g (s.take n)) (by omega), ch_end n _ (by rw [List.length_drop]; omega)]
theorem swab_swab : ∀ l : Bs, swabP (swabP l) = l
  | [] => rfl
  | [_] => rfl
  | a :: b :: r => by rw [swabP, swabP, swab_swab r]
theorem counts (n : Nat) (hn : 1 ≤ n) : ∀ (f : Nat) (s : Bs) (c : Int), s.length ≤ f → parted n (takeC c (ch n s)) ≤ 1 ∧ (takeC c (ch n s)).flatten.length = n * whole n (takeC c (ch n s)) + (if parted n (takeC c (ch n s)) = 1 then s.length % n else 0) ∧ whole n (takeC c (ch n s)) + parted n (takeC c (ch n s)) = (takeC c (ch n s)).length
  | 0, s, c, h => by rw [ch_end n s (by omega), takeC_nil]; simp [parted, whole]
  | f + 1, s, c, h => by
    by_cases h0 : s.length = 0
    · rw [ch_end n s h0, takeC_nil]; simp [parted, whole]
    · by_cases hc : c = 0
      · rw [hc, takeC_zero]; simp [parted, whole]
      · rw [ch_cons n hn s (by omega), takeC_cons c hc]
        obtain ⟨i1, i2, i3⟩ := counts n hn f (s.drop n) (c - 1) (by rw [List.length_drop]; omega)
        by_cases hx : n ≤ s.length
        · have e : (s.take n).length = n := by rw [List.length_take]; omega
          have hm : (s.drop n).length % n = s.length % n := by
            rw [List.length_drop]
            exact (Nat.mod_eq_sub_mod hx).symm
          rw [hm] at i2
          generalize takeC (c - 1) (ch n (s.drop n)) = T at *
          have w1 : whole n (s.take n :: T) = whole n T + 1 := by simp [whole, e]
          have p1 : parted n (s.take n :: T) = parted n T := by simp [parted, e]
          rw [w1, p1, List.flatten_cons, List.length_append, e, i2, List.length_cons, Nat.mul_add, Nat.mul_one]
          exact ⟨i1, by omega, by omega⟩
        · have e : (s.take n).length = s.length := by rw [List.length_take]; omega
          rw [show ch n (s.drop n) = [] from ch_end n _ (by rw [List.length_drop]; omega), takeC_nil]
          have hne : ¬ (s.take n).length = n := by omega
          have w1 : whole n [s.take n] = 0 := by unfold whole; rw [List.filter_cons_of_neg (by rw [decide_eq_false hne]; exact Bool.false_ne_true)]; rfl
          have p1 : parted n [s.take n] = 1 := by unfold parted; rw [List.filter_cons_of_pos (by rw [decide_eq_false hne]; rfl)]; rfl
          rw [w1, p1]
          simp
          rw [Nat.mod_eq_of_lt (by omega)]
          omega
theorem rest3 (L q : Nat) (hq : 1 ≤ q) : (L % q + q - 1) / q = if L % q = 0 then 0 else 1 := by
  have h1 := Nat.mod_lt L hq
  by_cases h : L % q = 0
  · rw [if_pos h, h, Nat.div_eq_of_lt (by omega)]
  · rw [if_neg h, Nat.div_eq_of_lt_le (k := 1) (by omega) (by omega)]
theorem bec_len_sync (p : Pl) (b : Bs) (hs : p.sy = true) (hb : b.length ≤ p.i.toNat) : (bec p b).length = p.i.toNat := by
  rw [bec_len1]; unfold b1P; rw [if_pos hs, fill_len _ _ hb]
theorem bec_len_plain (p : Pl) (b : Bs) (hs : p.sy = false) : (bec p b).length = b.length := by
  rw [bec_len1]; unfold b1P; rw [if_neg (by rw [hs]; simp)]
theorem went_sync (p : Pl) (l : List Bs) (hs : p.sy = true) (h : ∀ b ∈ l, b.length ≤ p.i.toNat) : (went p l).length = l.length * p.i.toNat := by
  induction l with
  | nil => simp [went]
  | cons a l ih =>
    have := ih (fun b hb => h b (List.mem_cons_of_mem _ hb))
    have e : went p (a :: l) = bec p a ++ went p l := by simp [went]
    rw [e, List.length_append, this, bec_len_sync p a hs (h a (List.mem_cons_self ..)), List.length_cons, Nat.add_mul, Nat.one_mul]
    omega
theorem went_plain (p : Pl) (l : List Bs) (hs : p.sy = false) : (went p l).length = l.flatten.length := by
  induction l with
  | nil => simp [went]
  | cons a l ih =>
    have e : went p (a :: l) = bec p a ++ went p l := by simp [went]
    rw [e, List.length_append, ih, bec_len_plain p a hs, List.flatten_cons, List.length_append]
end Go.Proofs.Ytebnmjelelkcmaa.Bk
