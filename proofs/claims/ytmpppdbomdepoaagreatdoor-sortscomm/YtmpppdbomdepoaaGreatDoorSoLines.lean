/- Lines in order: what comes ahead by an order; the document's answers for Sort, Check, Comm and Runs in plain words. -/
import Derived.Test.YtmpppdbomdepoaaGreatDoorSoPlain
import Derived.Test.YtmpppdbomdepoaaGreatDoorKyRefPlain
namespace Go.Proofs.YtmpppdbomdepoaaGreatDoor.So
open Go.RowKit Ky

abbrev Ls := List ByteArray
/-- by the order, and where it says nothing byte by byte -/
def cmpA (o : Ord) (a b : Bs) : Int := Ky.lex (Ky.compare o) (if o.rev = true then (fun a b => -cmpL a b) else cmpL) a b
theorem good_cmpA (o : Ord) : Ky.Good (cmpA o) := by
  have h : Ky.Good (if o.rev = true then (fun a b => -cmpL a b) else cmpL) := by
    split
    · exact good_cmpL.neg
    · exact good_cmpL
  exact (good_compare o).lex h
theorem cmpA_same (o : Ord) (a b : Bs) (h : cmpA o a b = 0) : a = b := by
  unfold cmpA Ky.lex at h
  split at h
  · cases hr : o.rev
    · rw [hr] at h; exact (cmpL_zero a b).1 h
    · rw [hr] at h; simp only [if_true] at h; exact (cmpL_zero a b).1 (by omega)
  · contradiction
theorem cmpA_turn (o : Ord) (a b : Bs) : cmpA { o with rev := !o.rev } a b = -cmpA o a b := by
  have h := compare_rev o a b
  unfold cmpA Ky.lex
  rw [h]
  cases o.rev
  · simp only [Bool.not_false, if_true, Bool.false_eq_true, if_false]; split <;> split <;> omega
  · simp only [Bool.not_true, if_true, Bool.false_eq_true, if_false]; split <;> split <;> omega
/-- of lines as texts; unique: by the order alone -/
def cB (o : Ord) (u : Bool) (a b : ByteArray) : Int := if u = true then Ky.compare o a.data.toList b.data.toList else cmpA o a.data.toList b.data.toList
theorem good_cB (o : Ord) (u : Bool) : Ky.Good (cB o u) := by
  cases u
  · exact (good_cmpA o).comap (fun a : ByteArray => a.data.toList)
  · exact (good_compare o).comap (fun a : ByteArray => a.data.toList)
theorem bytes_eq {a b : ByteArray} (h : a.data.toList = b.data.toList) : a = b := by
  cases a; cases b; simp at h; rw [h]
theorem cB_same (o : Ord) (a b : ByteArray) (h : cB o false a b = 0) : a = b := bytes_eq (cmpA_same o _ _ h)
theorem cB_turn (o : Ord) (a b : ByteArray) : cB { o with rev := !o.rev } false a b = -cB o false a b := cmpA_turn o _ _

/-- the lines in order; unique: of those that are alike the first one -/
def sortL (o : Ord) (u : Bool) (l : Ls) : Ls := if u = true then uq (cB o true) (ms (cB o true) l) else ms (cB o false) l
/-- the error of Sort: 1, 3, or none -/
def sortE (o : Ord) (n : Nat) : Int := if okO o = false then 1 else if 65536 < n then 3 else 0
def sortA (o : Ord) (u : Bool) (l : Ls) : Ls := if sortE o l.length = 0 then sortL o u l else []
theorem sortL_len (o : Ord) (l : Ls) : (sortL o false l).length = l.length := (ms_all (good_cB o false) _ l (Nat.le_refl _)).1.length_eq
theorem uqr_len {α : Type} (c : α → α → Int) : ∀ (p : α) (l : List α), (uqr c p l).length ≤ l.length
  | _, [] => by simp [uqr]
  | p, y :: l => by
    have := uqr_len c y l
    unfold uqr
    split
    · simp; omega
    · simp; omega
theorem uq_len {α : Type} (c : α → α → Int) (l : List α) : (uq c l).length ≤ l.length := by
  cases l with
  | nil => simp [uq]
  | cons x l => have := uqr_len c x l; simp [uq]; omega
theorem sortL_le (o : Ord) (u : Bool) (l : Ls) : (sortL o u l).length ≤ l.length := by
  cases u
  · exact Nat.le_of_eq (sortL_len o l)
  · refine Nat.le_trans (uq_len _ _) ?_
    exact Nat.le_of_eq (ms_all (good_cB o true) _ l (Nat.le_refl _)).1.length_eq

/-! ### what is not in order -/
/-- is a line not as it should be behind another one? -/
def badB (o : Ord) (u : Bool) (a b : ByteArray) : Bool := (u && decide (0 ≤ cB o true a b)) || decide (cB o false b a < 0)
/-- the place of the first one, counted from n -/
def badAt (o : Ord) (u : Bool) (n : Nat) : ByteArray → Ls → Int
  | _, [] => -1
  | a, b :: l => if badB o u a b = true then (n : Int) else badAt o u (n + 1) b l
def checkL (o : Ord) (u : Bool) : Ls → Int
  | [] => -1
  | a :: l => if okO o = false then -1 else badAt o u 1 a l
theorem badAt_lo (o : Ord) (u : Bool) : ∀ (n : Nat) (a : ByteArray) (l : Ls), badAt o u n a l = -1 ∨ (n : Int) ≤ badAt o u n a l
  | _, _, [] => .inl rfl
  | n, a, b :: l => by
    unfold badAt
    split
    · exact .inr (Int.le_refl _)
    · rcases badAt_lo o u (n + 1) b l with h | h
      · exact .inl h
      · exact .inr (by omega)
theorem badAt_none (o : Ord) : ∀ (n : Nat) (a : ByteArray) (l : Ls), badAt o false n a l = -1 ↔ Chain (fun a b => cB o false a b ≤ 0) (a :: l)
  | _, _, [] => by simp [badAt, Chain]
  | n, a, b :: l => by
    have i := badAt_none o (n + 1) b l
    have t := (good_cB o false).tn a b
    unfold badAt badB
    by_cases h : cB o false b a < 0
    · simp [h, Chain]; omega
    · simp [h, Chain, i]; omega
/-- in order, as Check says it -/
theorem check_in (o : Ord) (hok : okO o = true) (l : Ls) : checkL o false l = -1 ↔ InO (cB o false) l := by
  rw [inO_chain (good_cB o false)]
  cases l with
  | nil => simp [checkL, Chain]
  | cons a l => unfold checkL; rw [hok]; simp only [Bool.true_eq_false, if_false]; exact badAt_none o 1 a l

/-! ### what two lists have -/
def comm : Ls → Ls → Ls × Ls × Ls
  | [], b => ([], b, [])
  | a, [] => (a, [], [])
  | x :: a, y :: b =>
    if cmpL x.data.toList y.data.toList < 0 then (x :: (comm a (y :: b)).1, (comm a (y :: b)).2.1, (comm a (y :: b)).2.2)
    else if 0 < cmpL x.data.toList y.data.toList then ((comm (x :: a) b).1, y :: (comm (x :: a) b).2.1, (comm (x :: a) b).2.2)
    else ((comm a b).1, (comm a b).2.1, x :: (comm a b).2.2)
termination_by a b => a.length + b.length
theorem comm_nil (b : Ls) : comm [] b = ([], b, []) := by rw [comm]
theorem comm_nil' (a : Ls) : comm a [] = (a, [], []) := by
  cases a with
  | nil => rw [comm]
  | cons x a => rw [comm]; simp
theorem comm_cons (x y : ByteArray) (a b : Ls) : comm (x :: a) (y :: b) =
    if cmpL x.data.toList y.data.toList < 0 then (x :: (comm a (y :: b)).1, (comm a (y :: b)).2.1, (comm a (y :: b)).2.2)
    else if 0 < cmpL x.data.toList y.data.toList then ((comm (x :: a) b).1, y :: (comm (x :: a) b).2.1, (comm (x :: a) b).2.2)
    else ((comm a b).1, (comm a b).2.1, x :: (comm a b).2.2) := by rw [comm]

/-! ### runs -/
/-- a line without its first fields -/
def skipF : Nat → Bs → Bs
  | 0, s => s
  | n + 1, s => skipF n (part2 s)
/-- and without its first bytes -/
def leftOf (f b : Int) (s : Bs) : Bs := (skipF f.toNat s).drop b.toNat
def runs (f b : Int) : Ls → List (ByteArray × Nat)
  | [] => []
  | [x] => [(x, 1)]
  | x :: y :: l => if leftOf f b x.data.toList = leftOf f b y.data.toList then
      (match runs f b (y :: l) with | [] => [(x, 1)] | (_, n) :: r => (x, n + 1) :: r) else (x, 1) :: runs f b (y :: l)
end Go.Proofs.YtmpppdbomdepoaaGreatDoor.So
