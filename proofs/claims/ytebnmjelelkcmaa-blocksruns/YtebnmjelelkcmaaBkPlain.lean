/- Texts by blocks, in plain words. -/
import Derived.Test.YtebnmjelelkcmaaCuBase
namespace Go.Proofs.Ytebnmjelelkcmaa.Bk
open Go.RowKit Cu

/-- a plan -/
structure Pl where
  i : Int
  o : Int
  sk : Int
  ct : Int
  se : Int
  kp : Bool
  sw : Bool
  up : Bool
  lo : Bool
  sy : Bool
def plC (p : Pl) : Array Value := #[.int .i64 p.i, .int .i64 p.o, .int .i64 p.sk, .int .i64 p.ct, .int .i64 p.se, .bool p.kp, .bool p.sw, .bool p.up, .bool p.lo, .bool p.sy]
def isB (n : Int) : Bool := decide (1 ≤ n) && decide (n ≤ 65536)
def isN (n : Int) : Bool := decide (0 ≤ n) && decide (n ≤ 2147483647)
def okP (p : Pl) : Bool := isB p.i && isB p.o && isN p.sk && isN p.se && !(p.up && p.lo)
theorem okP_iff (p : Pl) : okP p = true ↔ (1 ≤ p.i ∧ p.i ≤ 65536) ∧ (1 ≤ p.o ∧ p.o ≤ 65536) ∧ (0 ≤ p.sk ∧ p.sk ≤ 2147483647) ∧ (0 ≤ p.se ∧ p.se ≤ 2147483647) ∧ (p.up = false ∨ p.lo = false) := by
  unfold okP isB isN
  cases p.up <;> cases p.lo <;> simp [and_assoc]

/-! ### blocks -/
def chF (n : Nat) : Nat → Bs → List Bs
  | 0, _ => []
  | f + 1, s => if s.length = 0 then [] else s.take n :: chF n f (s.drop n)
def ch (n : Nat) (s : Bs) : List Bs := chF n s.length s
theorem chF_fuel (n : Nat) (hn : 1 ≤ n) : ∀ (f g : Nat) (s : Bs), s.length ≤ f → s.length ≤ g → chF n f s = chF n g s
  | 0, 0, _, _, _ => rfl
  | 0, g + 1, s, h, _ => by
    have : s.length = 0 := by omega
    simp [chF, this]
  | f + 1, 0, s, _, h => by
    have : s.length = 0 := by omega
    simp [chF, this]
  | f + 1, g + 1, s, h1, h2 => by
    rw [chF, chF]
    by_cases h : s.length = 0
    · rw [if_pos h, if_pos h]
    · rw [if_neg h, if_neg h, chF_fuel n hn f g (s.drop n) (by rw [List.length_drop]; omega) (by rw [List.length_drop]; omega)]
theorem ch_nil (n : Nat) : ch n [] = [] := rfl
theorem ch_cons (n : Nat) (hn : 1 ≤ n) (s : Bs) (h : 0 < s.length) : ch n s = s.take n :: ch n (s.drop n) := by
  unfold ch
  obtain ⟨f, hf⟩ : ∃ f, s.length = f + 1 := ⟨s.length - 1, by omega⟩
  rw [hf, chF, if_neg (by omega), chF_fuel n hn f (s.drop n).length (s.drop n) (by rw [List.length_drop]; omega) (Nat.le_refl _)]
theorem ch_end (n : Nat) (s : Bs) (h : s.length = 0) : ch n s = [] := by
  rw [List.eq_nil_of_length_eq_zero h]; rfl
theorem ch_flat (n : Nat) (hn : 1 ≤ n) : ∀ (f : Nat) (s : Bs), s.length ≤ f → (ch n s).flatten = s
  | 0, s, h => by rw [List.eq_nil_of_length_eq_zero (by omega : s.length = 0)]; rfl
  | f + 1, s, h => by
    by_cases h0 : s.length = 0
    · rw [List.eq_nil_of_length_eq_zero h0]; rfl
    · rw [ch_cons n hn s (by omega), List.flatten_cons, ch_flat n hn f (s.drop n) (by rw [List.length_drop]; omega), List.take_append_drop]
theorem ch_mem (n : Nat) (hn : 1 ≤ n) : ∀ (f : Nat) (s : Bs), s.length ≤ f → ∀ b ∈ ch n s, 1 ≤ b.length ∧ b.length ≤ n
  | 0, s, h => by rw [List.eq_nil_of_length_eq_zero (by omega : s.length = 0)]; simp [ch_nil]
  | f + 1, s, h => by
    by_cases h0 : s.length = 0
    · rw [List.eq_nil_of_length_eq_zero h0]; simp [ch_nil]
    · rw [ch_cons n hn s (by omega)]
      intro b hb
      rcases List.mem_cons.1 hb with rfl | hb
      · rw [List.length_take]; omega
      · exact ch_mem n hn f (s.drop n) (by rw [List.length_drop]; omega) b hb
theorem ch_len (n : Nat) (hn : 1 ≤ n) (s : Bs) : (ch n s).length ≤ s.length := by
  have h1 := ch_flat n hn _ s (Nat.le_refl _)
  have h2 := ch_mem n hn _ s (Nat.le_refl _)
  generalize ch n s = l at h1 h2
  subst h1
  induction l with
  | nil => simp
  | cons a l ih =>
    have := ih (fun b hb => h2 b (List.mem_cons_of_mem _ hb))
    have := h2 a (List.mem_cons_self ..)
    simp at *
    omega
/-- the first so many, or all -/
def takeC {α : Type} (c : Int) (l : List α) : List α := if c < 0 then l else l.take c.toNat
theorem takeC_nil {α : Type} (c : Int) : takeC c ([] : List α) = [] := by unfold takeC; split <;> simp
theorem takeC_zero {α : Type} (l : List α) : takeC 0 l = [] := by simp [takeC]
theorem takeC_cons {α : Type} (c : Int) (h : c ≠ 0) (x : α) (l : List α) : takeC c (x :: l) = x :: takeC (c - 1) l := by
  unfold takeC
  by_cases h1 : c < 0
  · rw [if_pos h1, if_pos (by omega)]
  · rw [if_neg h1, if_neg (by omega)]
    obtain ⟨k, hk⟩ : ∃ k : Nat, c.toNat = k + 1 := ⟨c.toNat - 1, by omega⟩
    rw [hk, show (c - 1).toNat = k from by omega]
    rfl
theorem takeC_sub {α : Type} (c : Int) (l : List α) : ∃ r, l = takeC c l ++ r := by
  unfold takeC
  split
  · exact ⟨[], by simp⟩
  · exact ⟨l.drop c.toNat, by simp⟩
def tkn (p : Pl) (s : Bs) : List Bs := takeC p.ct (ch p.i.toNat (s.drop (p.sk * p.i).toNat))

/-! ### what becomes of a block -/
def fillP (n : Nat) (b : Bs) : Bs := b ++ List.replicate (n - b.length) 0
def swabP : Bs → Bs
  | a :: b :: r => b :: a :: swabP r
  | l => l
def upC (c : UInt8) : UInt8 := if 97 ≤ c ∧ c ≤ 122 then c - 32 else c
def loC (c : UInt8) : UInt8 := if 65 ≤ c ∧ c ≤ 90 then c + 32 else c
def b1P (p : Pl) (b : Bs) : Bs := if p.sy = true then fillP p.i.toNat b else b
def b2P (p : Pl) (b : Bs) : Bs := if p.sw = true then swabP b else b
def b3P (p : Pl) (b : Bs) : Bs := if p.up = true then b.map upC else b
def b4P (p : Pl) (b : Bs) : Bs := if p.lo = true then b.map loC else b
def bec (p : Pl) (b : Bs) : Bs := b4P p (b3P p (b2P p (b1P p b)))
theorem swab_len : ∀ l : Bs, (swabP l).length = l.length
  | [] => rfl
  | [_] => rfl
  | _ :: _ :: r => by simp [swabP, swab_len r]
theorem fill_len (n : Nat) (b : Bs) (h : b.length ≤ n) : (fillP n b).length = n := by unfold fillP; simp; omega
theorem b1_len (p : Pl) (b : Bs) (h : b.length ≤ p.i.toNat) : (b1P p b).length ≤ p.i.toNat := by
  unfold b1P; split
  · rw [fill_len _ _ h]; exact Nat.le_refl _
  · exact h
theorem b2_len (p : Pl) (b : Bs) : (b2P p b).length = b.length := by unfold b2P; split <;> simp [swab_len]
theorem b3_len (p : Pl) (b : Bs) : (b3P p b).length = b.length := by unfold b3P; split <;> simp
theorem b4_len (p : Pl) (b : Bs) : (b4P p b).length = b.length := by unfold b4P; split <;> simp
theorem bec_len1 (p : Pl) (b : Bs) : (bec p b).length = (b1P p b).length := by unfold bec; rw [b4_len, b3_len, b2_len]
def went (p : Pl) (l : List Bs) : Bs := (l.map (bec p)).flatten
theorem went_snoc (p : Pl) (l : List Bs) (b : Bs) : went p (l ++ [b]) = went p l ++ bec p b := by simp [went]
/-- how many are whole, how many are not -/
def whole (n : Nat) (l : List Bs) : Nat := (l.filter fun b => decide (b.length = n)).length
def parted (n : Nat) (l : List Bs) : Nat := (l.filter fun b => !decide (b.length = n)).length
theorem whole_snoc (n : Nat) (l : List Bs) (b : Bs) : whole n (l ++ [b]) = whole n l + if b.length = n then 1 else 0 := by
  unfold whole; rw [List.filter_append]
  by_cases h : b.length = n <;> simp [h]
theorem parted_snoc (n : Nat) (l : List Bs) (b : Bs) : parted n (l ++ [b]) = parted n l + if b.length = n then 0 else 1 := by
  unfold parted; rw [List.filter_append]
  by_cases h : b.length = n <;> simp [h]
theorem whole_le (n : Nat) (l : List Bs) : whole n l ≤ l.length := List.length_filter_le _ _
theorem parted_le (n : Nat) (l : List Bs) : parted n l ≤ l.length := List.length_filter_le _ _
theorem tkn_len (p : Pl) (s : Bs) (h : 1 ≤ p.i) : (tkn p s).length ≤ s.length := by
  obtain ⟨r, hr⟩ := takeC_sub p.ct (ch p.i.toNat (s.drop (p.sk * p.i).toNat))
  have h1 := ch_len p.i.toNat (by omega) (s.drop (p.sk * p.i).toNat)
  have h2 := congrArg List.length hr
  rw [List.length_append] at h2
  rw [List.length_drop] at h1
  unfold tkn
  omega
theorem tkn_mem (p : Pl) (s : Bs) (h : 1 ≤ p.i) : ∀ b ∈ tkn p s, 1 ≤ b.length ∧ b.length ≤ p.i.toNat := by
  obtain ⟨r, hr⟩ := takeC_sub p.ct (ch p.i.toNat (s.drop (p.sk * p.i).toNat))
  intro b hb
  refine ch_mem p.i.toNat (by omega) _ (s.drop (p.sk * p.i).toNat) (Nat.le_refl _) b ?_
  rw [hr]
  exact List.mem_append_left _ hb
theorem flat_len_le (l : List Bs) (n : Nat) (h : ∀ b ∈ l, b.length ≤ n) : l.flatten.length ≤ n * l.length := by
  induction l with
  | nil => simp
  | cons a l ih =>
    have h1 := ih (fun b hb => h b (List.mem_cons_of_mem _ hb))
    have h2 := h a (List.mem_cons_self ..)
    rw [List.flatten_cons, List.length_append, List.length_cons, Nat.mul_add, Nat.mul_one]
    omega
theorem went_len (p : Pl) (l : List Bs) (h : ∀ b ∈ l, b.length ≤ p.i.toNat) : (went p l).length ≤ p.i.toNat * l.length := by
  have := flat_len_le (l.map (bec p)) p.i.toNat (fun b hb => by
    obtain ⟨c, hc, rfl⟩ := List.mem_map.1 hb
    rw [bec_len1]; exact b1_len p c (h c hc))
  rwa [List.length_map] at this

/-! ### put elsewhere, and the whole -/
def putP (p : Pl) (g out : Bs) : Bs := out.take (p.se * p.o).toNat ++ List.replicate ((p.se * p.o).toNat - out.length) 0 ++ g ++ (if p.kp = true then out.drop ((p.se * p.o).toNat + g.length) else [])
structure Ans where
  s : Bs
  a : Nat
  b : Nat
  c : Nat
  d : Nat
  e : Int
def bad (e : Int) : Ans := ⟨[], 0, 0, 0, 0, e⟩
def runP (p : Pl) (s t : Bs) : Ans :=
  if okP p = false then bad 1 else if 1048576 < s.length ∨ 1048576 < t.length then bad 3
  else if 1048576 < (p.se * p.o).toNat + (went p (tkn p s)).length then bad 3
  else ⟨putP p (went p (tkn p s)) t, whole p.i.toNat (tkn p s), parted p.i.toNat (tkn p s), (went p (tkn p s)).length / p.o.toNat, if (went p (tkn p s)).length % p.o.toNat = 0 then 0 else 1, 0⟩
def ansV (r : Ans) : Value := .tuple #[.string ⟨r.s.toArray⟩, .agg #[.int .i64 r.a, .int .i64 r.b, .int .i64 r.c, .int .i64 r.d], .int .i64 r.e]
end Go.Proofs.Ytebnmjelelkcmaa.Bk
