/- Texts side by side, in plain words. -/
import Derived.Test.YtjkajhnnoecjbaaDoorVwPlain
set_option linter.unusedVariables false
namespace Go.Proofs.YtjkajhnnoecjbaaDoor.Vw
open Go.RowKit Cu

/-- what stands ahead of the i-th text -/
def sepAt (seps : Bs) (i : Nat) : Bs := if 0 < i ∧ 0 < seps.length then [seps.getD ((i - 1) % seps.length) 0] else []
theorem sepAt_zero (seps : Bs) : sepAt seps 0 = [] := by simp [sepAt]
theorem sepAt_none (i : Nat) : sepAt [] i = [] := by simp [sepAt]
theorem sepAt_len (seps : Bs) (i : Nat) : (sepAt seps i).length ≤ 1 := by unfold sepAt; split <;> simp
/-- texts side by side, the first of them the i-th -/
def besideP (seps : Bs) : Nat → List Bs → Bs
  | _, [] => []
  | i, p :: ps => sepAt seps i ++ p ++ besideP seps (i + 1) ps
theorem besideP_snoc (seps : Bs) : ∀ (i : Nat) (ps : List Bs) (p : Bs), besideP seps i (ps ++ [p]) = besideP seps i ps ++ sepAt seps (i + ps.length) ++ p
  | i, [], p => by simp [besideP]
  | i, q :: ps, p => by
    rw [List.cons_append, besideP, besideP_snoc seps (i + 1) ps p, besideP, List.length_cons, show i + 1 + ps.length = i + (ps.length + 1) by omega]
    simp [List.append_assoc]
def totL : List Bs → Nat
  | [] => 0
  | p :: ps => p.length + totL ps
theorem totL_snoc : ∀ (ps : List Bs) (p : Bs), totL (ps ++ [p]) = totL ps + p.length
  | [], p => by simp [totL]
  | q :: ps, p => by rw [List.cons_append, totL, totL_snoc ps p, totL]; omega
theorem besideP_len (seps : Bs) : ∀ (i : Nat) (ps : List Bs), (besideP seps i ps).length ≤ totL ps + ps.length
  | _, [] => by simp [besideP]
  | i, p :: ps => by
    have h1 := besideP_len seps (i + 1) ps
    have h2 := sepAt_len seps i
    rw [besideP, List.length_append, List.length_append, totL, List.length_cons]
    omega
/-- the longest list -/
def most : List (List Bs) → Nat
  | [] => 0
  | l :: r => max l.length (most r)
def nth (ls : List (List Bs)) (n : Nat) : List Bs := ls.map fun l => l.getD n []
def pasteP (ls : List (List Bs)) (seps : Bs) : List Bs := (List.range (most ls)).map fun n => besideP seps 0 (nth ls n)
/-- the first n lines -/
def pasteTo (ls : List (List Bs)) (seps : Bs) (n : Nat) : List Bs := (List.range n).map fun n => besideP seps 0 (nth ls n)
theorem pasteTo_zero (ls : List (List Bs)) (seps : Bs) : pasteTo ls seps 0 = [] := rfl
theorem pasteTo_succ (ls : List (List Bs)) (seps : Bs) (n : Nat) : pasteTo ls seps (n + 1) = pasteTo ls seps n ++ [besideP seps 0 (nth ls n)] := by
  unfold pasteTo
  rw [List.range_succ, List.map_append]; rfl
theorem pasteTo_len (ls : List (List Bs)) (seps : Bs) (n : Nat) : (pasteTo ls seps n).length = n := by simp [pasteTo]
theorem most_ge : ∀ {ls : List (List Bs)} {l : List Bs}, l ∈ ls → l.length ≤ most ls
  | x :: r, l, h => by
    rcases List.mem_cons.1 h with rfl | h
    · rw [most]; omega
    · have := most_ge h; rw [most]; omega
theorem most_snoc : ∀ (ls : List (List Bs)) (l : List Bs), most (ls ++ [l]) = max (most ls) l.length
  | [], l => by simp [most]
  | x :: r, l => by rw [List.cons_append, most, most_snoc r l, most]; omega
end Go.Proofs.YtjkajhnnoecjbaaDoor.Vw
