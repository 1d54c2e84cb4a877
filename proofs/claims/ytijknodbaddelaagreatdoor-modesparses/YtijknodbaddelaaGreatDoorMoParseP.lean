/- How a text of changes is read, in plain words. -/
import Derived.Test.YtijknodbaddelaaGreatDoorMoPlain
namespace Go.Proofs.YtijknodbaddelaaGreatDoor.Mo
open Go.RowKit

def orI (a b : Int) : Int := bits .or .i64 a b
/-- a digit from 0 to 7 -/
def octd (c : UInt8) : Bool := decide (48 ≤ c.toNat ∧ c.toNat ≤ 55)
def valP (s : Bs) : Nat := s.foldl (fun n c => n * 8 + (c.toNat - 48)) 0
/-- an octal text's number -/
def readP (s : Bs) : Option Nat := if 1 ≤ s.length ∧ s.length ≤ 4 ∧ s.all octd = true ∧ valP s ≤ 511 then some (valP s) else none
theorem valP_snoc (s : Bs) (c : UInt8) : valP (s ++ [c]) = valP s * 8 + (c.toNat - 48) := by simp [valP]
theorem valP_lt (s : Bs) (h : s.all octd = true) : valP s < 8 ^ s.length := by
  suffices H : ∀ (s : Bs) (n m : Nat), s.all octd = true → n < m → s.foldl (fun n c => n * 8 + (c.toNat - 48)) n < m * 8 ^ s.length by
    have := H s 0 1 h (by decide)
    rw [Nat.one_mul] at this; exact this
  intro s
  induction s with
  | nil => intro n m _ hn; simpa using hn
  | cons c s ih =>
    intro n m h hn
    simp only [List.all_cons, Bool.and_eq_true] at h
    have hc : 48 ≤ c.toNat ∧ c.toNat ≤ 55 := by simpa [octd] using h.1
    have := ih (n * 8 + (c.toNat - 48)) (m * 8) h.2 (by omega)
    rw [List.foldl_cons, List.length_cons, Nat.pow_succ, Nat.mul_comm (8 ^ s.length) 8, ← Nat.mul_assoc]
    exact this

def whoZ (r : Int) : Int := if r = 117 then 4 else if r = 103 then 2 else if r = 111 then 1 else if r = 97 then 7 else 0
def isOp (r : Int) : Bool := r == 43 || r == 45 || r == 61
/-- a sign behind an action's Op -/
def addP (ch : Ch) (r : Int) : Option Ch :=
  if ch.cp ≠ 0 then none
  else if r = 114 then some { ch with bits := orI ch.bits 4 }
  else if r = 119 then some { ch with bits := orI ch.bits 2 }
  else if r = 120 then some { ch with bits := orI ch.bits 1 }
  else if r = 88 then some { ch with dirs := true }
  else if r = 117 ∨ r = 103 ∨ r = 111 then (if ch.bits ≠ 0 ∨ ch.dirs = true then none else some { ch with cp := UInt8.ofNat r.toNat })
  else none
/-- so far as a clause was read: who, the changes ahead of the last one, the last one -/
structure St where
  who : Int
  pre : List Ch
  cur : Option Ch
def St.all (st : St) : List Ch := st.pre ++ st.cur.toList
def stepP (st : St) (r : Int) : Option St :=
  if isOp r then some ⟨st.who, st.all, some ⟨st.who, UInt8.ofNat r.toNat, 0, 0, false⟩⟩
  else match st.cur with
    | some ch => (addP ch r).map fun ch' => ⟨st.who, st.pre, some ch'⟩
    | none => if whoZ r = 0 then none else some ⟨orI st.who (whoZ r), st.pre, none⟩
theorem whoZ_high {r : Int} (h : 128 ≤ r) : whoZ r = 0 := by
  unfold whoZ; rw [if_neg (by omega), if_neg (by omega), if_neg (by omega), if_neg (by omega)]
theorem addP_high {ch : Ch} {r : Int} (h : 128 ≤ r) : addP ch r = none := by
  unfold addP
  split
  · rfl
  · rw [if_neg (by omega), if_neg (by omega), if_neg (by omega), if_neg (by omega), if_neg (by omega)]
theorem isOp_high {r : Int} (h : 128 ≤ r) : isOp r = false := by
  unfold isOp; simp; omega
theorem stepP_high {st : St} {r : Int} (h : 128 ≤ r) : stepP st r = none := by
  unfold stepP
  rw [isOp_high h]
  cases st.cur with
  | none => simp [whoZ_high h]
  | some ch => simp [addP_high h]
def runP : St → Bs → Option St
  | st, [] => some st
  | st, c :: r => match stepP st (c.toNat : Int) with
    | none => none
    | some st' => runP st' r
theorem runP_app (st : St) (a b : Bs) : runP st (a ++ b) = (runP st a).bind fun st' => runP st' b := by
  induction a generalizing st with
  | nil => rfl
  | cons c a ih =>
    rw [List.cons_append, runP, runP]
    cases stepP st (c.toNat : Int) with
    | none => rfl
    | some st' => exact ih st'
theorem runP_snoc {st st' : St} {a : Bs} {c : UInt8} (h : runP st a = some st') : runP st (a ++ [c]) = stepP st' (c.toNat : Int) := by
  rw [runP_app, h, Option.bind_some, runP]
  cases stepP st' (c.toNat : Int) <;> rfl
theorem runP_none {st : St} {a b : Bs} (h : runP st a = none) : runP st (a ++ b) = none := by rw [runP_app, h]; rfl
def st0 : St := ⟨0, [], none⟩
/-- the changes of a clause -/
def clauseP (s : Bs) : Option (List Ch) := match runP st0 s with
  | none => none
  | some st => if st.cur.isSome then some st.all else none
/-- where nothing stands ahead there is no last one -/
theorem stepP_nil {st st' : St} {r : Int} (h : stepP st r = some st') (hn : st.cur = none → st.pre = []) : st'.cur = none → st'.pre = [] := by
  unfold stepP at h
  split at h
  · injection h with h; subst h; intro h; cases h
  · split at h
    · rename_i ch hc
      cases ha : addP ch r with
      | none => rw [ha] at h; cases h
      | some c => rw [ha] at h; injection h with h; subst h; intro h; cases h
    · rename_i hc
      split at h
      · cases h
      · injection h with h; subst h; intro _; exact hn hc
theorem runP_nil {st st' : St} {a : Bs} (h : runP st a = some st') (hn : st.cur = none → st.pre = []) : st'.cur = none → st'.pre = [] := by
  induction a generalizing st with
  | nil => rw [runP] at h; injection h with h; subst h; exact hn
  | cons c a ih =>
    rw [runP] at h
    cases hs : stepP st (c.toNat : Int) with
    | none => rw [hs] at h; cases h
    | some s2 => rw [hs] at h; exact ih h (stepP_nil hs hn)
theorem stepP_len {st st' : St} {r : Int} (h : stepP st r = some st') : st'.all.length ≤ st.all.length + 1 := by
  unfold stepP at h
  split at h
  · injection h with h; subst h; simp [St.all]; omega
  · split at h
    · rename_i ch hc
      cases ha : addP ch r with
      | none => rw [ha] at h; cases h
      | some c => rw [ha] at h; injection h with h; subst h; simp [St.all, hc]
    · rename_i hc
      split at h
      · cases h
      · injection h with h; subst h; simp [St.all, hc]
theorem runP_len {st st' : St} {a : Bs} (h : runP st a = some st') : st'.all.length ≤ st.all.length + a.length := by
  induction a generalizing st with
  | nil => rw [runP] at h; injection h with h; subst h; simp
  | cons c a ih =>
    rw [runP] at h
    cases hs : stepP st (c.toNat : Int) with
    | none => rw [hs] at h; cases h
    | some s2 => rw [hs] at h; have := ih h; have := stepP_len hs; simp; omega
theorem clauseP_len {s : Bs} {l : List Ch} (h : clauseP s = some l) : l.length ≤ s.length := by
  unfold clauseP at h
  cases hr : runP st0 s with
  | none => rw [hr] at h; cases h
  | some st =>
    rw [hr] at h
    simp only at h
    split at h
    · injection h with h; subst h; have := runP_len hr; simpa [St.all, st0] using this
    · cases h

/-- the parts of a text between commas -/
def splitC : List UInt8 → List (List UInt8)
  | [] => [[]]
  | c :: t => if c = 44 then [] :: splitC t else
      match splitC t with
      | [] => [[c]]
      | p :: r => (c :: p) :: r
theorem splitC_ne (s : List UInt8) : splitC s ≠ [] := by
  cases s with
  | nil => simp [splitC]
  | cons c t => rw [splitC]; split; simp; split <;> simp
theorem splitC_end : ∀ {s : List UInt8}, (∀ c ∈ s, c ≠ 44) → splitC s = [s]
  | [], _ => rfl
  | c :: t, h => by rw [splitC, if_neg (h c (by simp)), splitC_end (fun d hd => h d (by simp [hd]))]
theorem splitC_hit : ∀ {a : List UInt8} (b : List UInt8), (∀ c ∈ a, c ≠ 44) → splitC (a ++ 44 :: b) = a :: splitC b
  | [], b, _ => by simp [splitC]
  | c :: t, b, h => by rw [List.cons_append, splitC, if_neg (h c (by simp)), splitC_hit b (fun d hd => h d (by simp [hd]))]
theorem splitC_two (b : List UInt8) : ∀ (a : List UInt8), splitC (a ++ 44 :: b) = splitC a ++ splitC b
  | [] => by simp [splitC]
  | c :: t => by
    rw [List.cons_append, splitC, splitC, splitC_two b t]
    split
    · rfl
    · cases h : splitC t with
      | nil => exact absurd h (splitC_ne t)
      | cons p r => rfl
theorem splitC_len : ∀ (s : List UInt8), ((splitC s).map (fun x => x.length + 1)).sum = s.length + 1
  | [] => rfl
  | c :: t => by
    have ih := splitC_len t
    rw [splitC]
    split
    · simp at ih ⊢; omega
    · cases h : splitC t with
      | nil => exact absurd h (splitC_ne t)
      | cons p r => rw [h] at ih; simp at ih ⊢; omega
/-- the changes of all clauses -/
def clausesP : List (List UInt8) → Option (List Ch)
  | [] => some []
  | x :: r => match clauseP x, clausesP r with
    | some l, some l' => some (l ++ l')
    | _, _ => none
theorem clausesP_app (a b : List (List UInt8)) : clausesP (a ++ b) = match clausesP a, clausesP b with
    | some l, some l' => some (l ++ l')
    | _, _ => none := by
  induction a with
  | nil => rw [List.nil_append, clausesP]; cases clausesP b <;> rfl
  | cons x a ih =>
    rw [List.cons_append, clausesP, ih, clausesP]
    cases clauseP x <;> cases clausesP a <;> cases clausesP b <;> simp
theorem clausesP_len {xs : List (List UInt8)} {l : List Ch} (h : clausesP xs = some l) : l.length ≤ (xs.map (fun x => x.length + 1)).sum := by
  induction xs generalizing l with
  | nil => rw [clausesP] at h; injection h with h; subst h; simp
  | cons x r ih =>
    rw [clausesP] at h
    cases hx : clauseP x with
    | none => rw [hx] at h; simp at h
    | some a =>
      cases hr : clausesP r with
      | none => rw [hx, hr] at h; simp at h
      | some b =>
        rw [hx, hr] at h
        simp only [Option.some.injEq] at h
        subst h
        have h1 := clauseP_len hx
        have h2 := ih hr
        simp
        omega
theorem clausesP_take_no {xs : List (List UInt8)} {k : Nat} (hk : k < xs.length) (h : clauseP xs[k] = none) : clausesP xs = none := by
  induction xs generalizing k with
  | nil => simp at hk
  | cons x r ih =>
    cases k with
    | zero => simp at h; rw [clausesP, h]
    | succ k =>
      have := ih (k := k) (by simpa using hk) (by simpa using h)
      rw [clausesP, this]
      cases clauseP x <;> rfl
theorem clausesP_take_yes {xs : List (List UInt8)} {k : Nat} {l r : List Ch} (hk : k < xs.length) (hl : clausesP (xs.take k) = some l) (h : clauseP xs[k] = some r) : clausesP (xs.take (k + 1)) = some (l ++ r) := by
  rw [List.take_succ_eq_append_getElem hk, clausesP_app, hl]
  simp [clausesP, h]
def octL (m : Nat) : List Ch := [⟨4, 61, (partP m 117 : Nat), 0, false⟩, ⟨2, 61, (partP m 103 : Nat), 0, false⟩, ⟨1, 61, (partP m 111 : Nat), 0, false⟩]
def parse (s : Bs) : Option (List Ch) := match readP s with
  | some m => some (octL m)
  | none => clausesP (splitC s)
def parseL (s : Bs) : List Ch := if 4096 < s.length then [] else (parse s).getD []
def parseE (s : Bs) : Int := if 4096 < s.length then 3 else match parse s with
  | some _ => 0
  | none => 5
end Go.Proofs.YtijknodbaddelaaGreatDoor.Mo
