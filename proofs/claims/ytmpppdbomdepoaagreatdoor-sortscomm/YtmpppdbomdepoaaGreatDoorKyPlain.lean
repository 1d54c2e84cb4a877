/- Keys in plain words: orders, keys, numbers, how lines compare; that it is an order. -/
import Derived.WalkKit
namespace Go.Proofs.YtmpppdbomdepoaaGreatDoor.Ky
open Go.RowKit

abbrev Bs := List UInt8
structure Ord where
  fr : Int
  to : Int
  sep : UInt8
  num : Bool
  bls : Bool
  fold : Bool
  rev : Bool
def okO (o : Ord) : Bool := decide (0 ≤ o.fr ∧ o.fr ≤ 1000 ∧ o.sep ≠ 10 ∧ (o.to = 0 ∨ (0 < o.fr ∧ o.fr ≤ o.to ∧ o.to ≤ 1000)))
def bl (c : UInt8) : Bool := decide (c = 32 ∨ c = 9)
/-- a field by blanks: those that stand there, and what is none -/
def part1 (s : Bs) : Bs := s.takeWhile bl ++ (s.dropWhile bl).takeWhile (fun c => !bl c)
def part2 (s : Bs) : Bs := (s.dropWhile bl).dropWhile (fun c => !bl c)
def parts : Nat → Bs → List Bs
  | _, [] => []
  | 0, _ :: _ => []
  | f + 1, c :: r => part1 (c :: r) :: parts f (part2 (c :: r))
/-- fields between bytes -/
def split (p : UInt8) : Bs → List Bs
  | [] => [[]]
  | c :: r => if c = p then [] :: split p r else match split p r with | [] => [[c]] | x :: l => (c :: x) :: l
def join (b : Bs) : List Bs → Bs
  | [] => []
  | [x] => x
  | x :: y :: l => x ++ b ++ join b (y :: l)
def fields (o : Ord) (s : Bs) : List Bs := if o.sep = 0 then parts s.length s else split o.sep s
def btw (o : Ord) : Bs := if o.sep = 0 then [] else [o.sep]
def key (o : Ord) (s : Bs) : Bs :=
  if okO o = false then [] else if o.fr = 0 then s else
    let l := (fields o s).drop (o.fr.toNat - 1)
    join (btw o) (if o.to = 0 then l else l.take (o.to.toNat + 1 - o.fr.toNat))

/-! ### numbers -/
def dg (c : UInt8) : Bool := decide (48 ≤ c) && decide (c ≤ 57)
def noughts (s : Bs) : Bs := s.dropWhile (· == 48)
def behind (s : Bs) : Bs := (s.reverse.dropWhile (· == 48)).reverse
structure Dec where
  sign : Int
  whole : Bs
  part : Bs
def unsigned (s : Bs) : Bs × Bs :=
  (noughts (s.takeWhile dg), behind (match s.dropWhile dg with | 46 :: r => r.takeWhile dg | _ => []))
def decOf (s : Bs) : Dec :=
  match s.dropWhile bl with
  | 45 :: r => ⟨if (unsigned r).1 = [] ∧ (unsigned r).2 = [] then 0 else -1, (unsigned r).1, (unsigned r).2⟩
  | r => ⟨if (unsigned r).1 = [] ∧ (unsigned r).2 = [] then 0 else 1, (unsigned r).1, (unsigned r).2⟩

/-! ### comparing -/
def cmpI (a b : Int) : Int := if a < b then -1 else if b < a then 1 else 0
def cmpL : Bs → Bs → Int
  | [], [] => 0
  | [], _ :: _ => -1
  | _ :: _, [] => 1
  | a :: s, b :: t => if a < b then -1 else if b < a then 1 else cmpL s t
def lex {α : Type} (c d : α → α → Int) (a b : α) : Int := if c a b = 0 then d a b else c a b
def cmpU (x y : Dec) : Int := lex (fun x y => cmpI x.whole.length y.whole.length) (lex (fun x y => cmpL x.whole y.whole) (fun x y => cmpL x.part y.part)) x y
def cmpD (x y : Dec) : Int := if x.sign = y.sign then cmpU x y * x.sign else cmpI x.sign y.sign
def number (a b : Bs) : Int := cmpD (decOf a) (decOf b)
def up (c : UInt8) : UInt8 := if 97 ≤ c ∧ c ≤ 122 then c - 32 else c
def fit (o : Ord) (s : Bs) : Bs := (if o.bls = true then s.dropWhile bl else s).map (fun c => if o.fold = true then up c else c)
def compare (o : Ord) (a b : Bs) : Int :=
  if okO o = false then 0 else
    let n := if o.num = true then number (key o a) (key o b) else cmpL (fit o (key o a)) (fit o (key o b))
    if o.rev = true then -n else n

/-! ### orders -/
/-- -1, 0 or 1; turned about; one behind the other -/
structure Good {α : Type} (c : α → α → Int) : Prop where
  rg : ∀ a b, c a b = -1 ∨ c a b = 0 ∨ c a b = 1
  tn : ∀ a b, c b a = -c a b
  tr : ∀ a b d, c a b ≤ 0 → c b d ≤ 0 → c a d ≤ 0
theorem Good.self {α : Type} {c : α → α → Int} (h : Good c) (a : α) : c a a = 0 := by have := h.tn a a; omega
theorem Good.same {α : Type} {c : α → α → Int} (h : Good c) {a b : α} (e : c a b = 0) (d : α) : c a d = c b d := by
  have e' : c b a = 0 := by rw [h.tn, e]; rfl
  have h1 := h.tr a b d (by omega)
  have h2 := h.tr b a d (by omega)
  have h3 := h.tr d a b
  have h4 := h.tr d b a
  have t1 := h.tn a d
  have t2 := h.tn b d
  have r1 := h.rg a d
  have r2 := h.rg b d
  omega
theorem Good.same' {α : Type} {c : α → α → Int} (h : Good c) {b d : α} (e : c b d = 0) (a : α) : c a b = c a d := by
  have h1 := h.same e a
  have t1 := h.tn a b
  have t2 := h.tn a d
  omega
theorem Good.less {α : Type} {c : α → α → Int} (h : Good c) {a b d : α} (h1 : c a b < 0) (h2 : c b d < 0) : c a d < 0 := by
  have h3 := h.tr a b d (by omega) (by omega)
  by_cases e : c a d = 0
  · have := h.same' e b
    have t1 := h.tn a b
    omega
  · omega
theorem Good.comap {α β : Type} {c : α → α → Int} (h : Good c) (f : β → α) : Good (fun a b => c (f a) (f b)) := ⟨fun _ _ => h.rg _ _, fun _ _ => h.tn _ _, fun _ _ _ => h.tr _ _ _⟩
theorem Good.neg {α : Type} {c : α → α → Int} (h : Good c) : Good (fun a b => -c a b) := by
  refine ⟨fun a b => ?_, fun a b => ?_, fun a b d => ?_⟩
  · have := h.rg a b; omega
  · have := h.tn a b; omega
  · intro h1 h2
    have := h.tr d b a
    have t1 := h.tn a b
    have t2 := h.tn b d
    have t3 := h.tn a d
    omega
theorem Good.zero {α : Type} : Good (fun _ _ : α => (0 : Int)) := ⟨fun _ _ => .inr (.inl rfl), fun _ _ => rfl, fun _ _ _ _ _ => Int.le_refl _⟩
theorem Good.lex {α : Type} {c d : α → α → Int} (h : Good c) (k : Good d) : Good (lex c d) := by
  refine ⟨fun a b => ?_, fun a b => ?_, fun a b e h1 h2 => ?_⟩
  · unfold Ky.lex; split
    · exact k.rg a b
    · exact h.rg a b
  · unfold Ky.lex
    have t := h.tn a b
    by_cases e : c a b = 0
    · rw [if_pos e, if_pos (by omega)]; exact k.tn a b
    · rw [if_neg e, if_neg (by omega)]; exact t
  · unfold Ky.lex at h1 h2 ⊢
    by_cases e1 : c a b = 0
    · rw [if_pos e1] at h1
      have s := h.same e1 e
      by_cases e2 : c b e = 0
      · rw [if_pos e2] at h2
        rw [if_pos (by omega)]
        exact k.tr a b e h1 h2
      · rw [if_neg e2] at h2
        rw [if_neg (by omega)]; omega
    · rw [if_neg e1] at h1
      by_cases e2 : c b e = 0
      · have s := h.same' e2 a
        rw [if_neg (by omega)]; omega
      · rw [if_neg e2] at h2
        have := h.less (a := a) (b := b) (d := e) (by omega) (by omega)
        rw [if_neg (by omega)]; omega
theorem good_cmpI : Good cmpI := by
  refine ⟨fun a b => ?_, fun a b => ?_, fun a b d h1 h2 => ?_⟩ <;> unfold cmpI at * <;> (repeat' split) <;> (try (repeat' split at *)) <;> omega
theorem good_cmpL : Good cmpL := by
  refine ⟨?_, ?_, ?_⟩
  · intro a
    induction a with
    | nil => intro b; cases b <;> simp [cmpL]
    | cons x s ih =>
      intro b
      cases b with
      | nil => simp [cmpL]
      | cons y t => unfold cmpL; split; · simp
                    · split; · simp
                      · exact ih t
  · intro a
    induction a with
    | nil => intro b; cases b <;> simp [cmpL]
    | cons x s ih =>
      intro b
      cases b with
      | nil => simp [cmpL]
      | cons y t =>
        have h1 := UInt8.lt_iff_toNat_lt (a := x) (b := y)
        have h2 := UInt8.lt_iff_toNat_lt (a := y) (b := x)
        have e := ih t
        simp only [cmpL]
        by_cases a1 : x < y
        · have a2 : ¬ y < x := by rw [h2]; have := h1.1 a1; omega
          simp [a1, a2]
        · by_cases a2 : y < x
          · simp [a1, a2]
          · simp [a1, a2, e]
  · intro a
    induction a with
    | nil => intro b d _ _; cases d <;> simp [cmpL]
    | cons x s ih =>
      intro b d h1 h2
      cases b with
      | nil => simp [cmpL] at h1
      | cons y t =>
        cases d with
        | nil => simp [cmpL] at h2
        | cons z u =>
          have l1 := UInt8.lt_iff_toNat_lt (a := x) (b := y)
          have l2 := UInt8.lt_iff_toNat_lt (a := y) (b := x)
          have l3 := UInt8.lt_iff_toNat_lt (a := y) (b := z)
          have l4 := UInt8.lt_iff_toNat_lt (a := z) (b := y)
          have l5 := UInt8.lt_iff_toNat_lt (a := x) (b := z)
          have l6 := UInt8.lt_iff_toNat_lt (a := z) (b := x)
          simp only [cmpL] at h1 h2 ⊢
          have hyx : ¬ y < x := fun h => by
            have : ¬ x < y := by rw [l1]; have := l2.1 h; omega
            rw [if_neg this, if_pos h] at h1; omega
          have hzy : ¬ z < y := fun h => by
            have : ¬ y < z := by rw [l3]; have := l4.1 h; omega
            rw [if_neg this, if_pos h] at h2; omega
          have hzx : ¬ z < x := by rw [l6]; rw [l2] at hyx; rw [l4] at hzy; omega
          by_cases hxz : x < z
          · rw [if_pos hxz]; decide
          · rw [if_neg hxz, if_neg hzx]
            have hxy : ¬ x < y := by rw [l1]; rw [l5] at hxz; rw [l4] at hzy; omega
            have hyz : ¬ y < z := by rw [l3]; rw [l5] at hxz; rw [l2] at hyx; omega
            rw [if_neg hxy, if_neg hyx] at h1
            rw [if_neg hyz, if_neg hzy] at h2
            exact ih t u h1 h2
theorem good_cmpU : Good cmpU := by
  have h1 : Good (fun x y : Dec => cmpI x.whole.length y.whole.length) := good_cmpI.comap (fun x : Dec => (x.whole.length : Int))
  have h2 : Good (fun x y : Dec => cmpL x.whole y.whole) := good_cmpL.comap (fun x : Dec => x.whole)
  have h3 : Good (fun x y : Dec => cmpL x.part y.part) := good_cmpL.comap (fun x : Dec => x.part)
  exact h1.lex (h2.lex h3)
/-- the sign is one -/
def sgn (x : Dec) : Prop := x.sign = -1 ∨ x.sign = 0 ∨ x.sign = 1
theorem decOf_sgn (s : Bs) : sgn (decOf s) := by
  unfold decOf sgn
  split <;> (simp only; split <;> simp)
theorem good_number : Good number := by
  have hI := good_cmpI
  have hU := good_cmpU
  refine ⟨fun a b => ?_, fun a b => ?_, fun a b d => ?_⟩
  · unfold number cmpD
    have h1 := decOf_sgn a
    split
    · have := hU.rg (decOf a) (decOf b)
      rcases h1 with h | h | h <;> rw [h] <;> omega
    · exact hI.rg _ _
  · unfold number cmpD
    have t1 := hI.tn (decOf a).sign (decOf b).sign
    have t2 := hU.tn (decOf a) (decOf b)
    by_cases e : (decOf a).sign = (decOf b).sign
    · rw [if_pos e, if_pos e.symm, t2, ← e, Int.neg_mul]
    · rw [if_neg e, if_neg (fun h => e h.symm)]; exact t1
  · unfold number cmpD
    have s1 := decOf_sgn a
    have s2 := decOf_sgn b
    have s3 := decOf_sgn d
    generalize decOf a = x at *
    generalize decOf b = y at *
    generalize decOf d = z at *
    have u1 := hU.tr x y z
    have u2 := hU.tr z y x
    have v1 := hU.tn x y
    have v2 := hU.tn y z
    have v3 := hU.tn x z
    unfold cmpI
    rcases s1 with h | h | h <;> rcases s2 with k | k | k <;> rcases s3 with m | m | m <;> simp only [h, k, m] <;> simp <;> omega
theorem good_compare (o : Ord) : Good (compare o) := by
  cases hk : okO o
  · have : compare o = fun _ _ => 0 := by funext a b; unfold compare; rw [hk]; rfl
    rw [this]; exact Good.zero
  · cases hn : o.num <;> cases hr : o.rev
    · have : compare o = fun a b => cmpL (fit o (key o a)) (fit o (key o b)) := by funext a b; unfold compare; rw [hk, hn, hr]; rfl
      rw [this]; exact good_cmpL.comap (fun a => fit o (key o a))
    · have : compare o = fun a b => -cmpL (fit o (key o a)) (fit o (key o b)) := by funext a b; unfold compare; rw [hk, hn, hr]; rfl
      rw [this]; exact (good_cmpL.comap (fun a => fit o (key o a))).neg
    · have : compare o = fun a b => number (key o a) (key o b) := by funext a b; unfold compare; rw [hk, hn, hr]; rfl
      rw [this]; exact good_number.comap (key o)
    · have : compare o = fun a b => -number (key o a) (key o b) := by funext a b; unfold compare; rw [hk, hn, hr]; rfl
      rw [this]; exact (good_number.comap (key o)).neg
theorem compare_rev (o : Ord) (a b : Bs) : compare { o with rev := !o.rev } a b = -compare o a b := by
  have hk : okO { o with rev := !o.rev } = okO o := rfl
  have hkey : ∀ s, key { o with rev := !o.rev } s = key o s := fun _ => rfl
  have hfit : ∀ s, fit { o with rev := !o.rev } s = fit o s := fun _ => rfl
  unfold compare
  rw [hk]
  cases okO o
  · rfl
  · simp only [hkey, hfit]
    cases o.rev <;> simp
end Go.Proofs.YtmpppdbomdepoaaGreatDoor.Ky
