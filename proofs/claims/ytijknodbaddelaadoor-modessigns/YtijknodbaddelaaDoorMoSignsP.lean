/- Clauses made of a mode's signs, in plain words. -/
import Derived.Test.YtijknodbaddelaaDoorMoFacts
import Derived.Test.YtijknodbaddelaaDoorMoText
import Derived.Test.YtijknodbaddelaaDoorMoAlive
namespace Go.Proofs.YtijknodbaddelaaDoor.Mo
open Go.RowKit

/-- the i-th bit of nine, from the left -/
def onP (mode : Int) (j : Nat) : Bool := decide (mode / 2 ^ (8 - j) % 2 = 1)
/-- the signs of a group, so far -/
def grp (f : Nat → Bool) (i n : Nat) : Bs := (List.range n).flatMap fun k => if f (3 * i + k) then [signP (3 * i + k)] else []
def lead (i : Nat) : Bs := (if i = 0 then [] else [44]) ++ [ltr i, 61]
/-- clauses, so far -/
def sigF (f : Nat → Bool) (i : Nat) : Bs := (List.range i).flatMap fun j => lead j ++ grp f j 3
theorem sigF_succ (f : Nat → Bool) (i : Nat) : sigF f (i + 1) = sigF f i ++ (lead i ++ grp f i 3) := by
  unfold sigF; rw [List.range_succ]; simp
theorem grp_succ (f : Nat → Bool) (i n : Nat) : grp f i (n + 1) = grp f i n ++ (if f (3 * i + n) then [signP (3 * i + n)] else []) := by
  unfold grp; rw [List.range_succ]; simp
theorem grp_len (f : Nat → Bool) (i n : Nat) : (grp f i n).length ≤ n := by
  induction n with
  | zero => simp [grp]
  | succ n ih => rw [grp_succ, List.length_append]; split <;> simp <;> omega
theorem sigF_len (f : Nat → Bool) (i : Nat) : (sigF f i).length ≤ 6 * i := by
  induction i with
  | zero => simp [sigF]
  | succ i ih =>
    rw [sigF_succ, List.length_append, List.length_append]
    have := grp_len f i 3
    have h2 : (lead i).length ≤ 3 := by unfold lead; split <;> simp
    omega
def enc1 (c : Ch) : List Int := [c.who, (c.op.toNat : Int), c.bits, (c.cp.toNat : Int), if c.dirs then 1 else 0]
theorem enc1_inj {a b : Ch} (h : enc1 a = enc1 b) : a = b := by
  obtain ⟨w, o, b1, c, d⟩ := a
  obtain ⟨w', o', b1', c', d'⟩ := b
  simp [enc1] at h
  obtain ⟨rfl, h2, rfl, h4, h5⟩ := h
  obtain rfl : o = o' := UInt8.toNat_inj.1 (by omega)
  obtain rfl : c = c' := UInt8.toNat_inj.1 (by omega)
  cases d <;> cases d' <;> simp_all
/-- the numbers of a list of changes, or none -/
def encO (o : Option (List Ch)) : List (List Int) := match o with
  | none => [[]]
  | some l => l.map enc1
theorem encL_inj {a b : List Ch} (h : a.map enc1 = b.map enc1) : a = b := by
  induction a generalizing b with
  | nil => cases b with
    | nil => rfl
    | cons x b => simp at h
  | cons x a ih => cases b with
    | nil => simp at h
    | cons y b =>
      simp at h
      rw [enc1_inj h.1, ih h.2]
theorem parse_sig9 : ∀ m : Nat, m < 512 → encO (parse (sigF (fun j => m.testBit (8 - j)) 3)) = (octL m).map enc1 := by decide +kernel
theorem sigF_congr {f g : Nat → Bool} (h : ∀ j, j < 9 → f j = g j) : sigF f 3 = sigF g 3 := by
  unfold sigF grp
  rw [show List.range 3 = [0, 1, 2] from rfl]
  simp only [List.flatMap_cons, List.flatMap_nil]
  rw [h (3 * 0 + 0) (by decide), h (3 * 0 + 1) (by decide), h (3 * 0 + 2) (by decide), h (3 * 1 + 0) (by decide), h (3 * 1 + 1) (by decide), h (3 * 1 + 2) (by decide), h (3 * 2 + 0) (by decide), h (3 * 2 + 1) (by decide), h (3 * 2 + 2) (by decide)]
theorem onP_bit (mode : Int) (j : Nat) (hj : j < 9) : onP mode j = (m9 mode).testBit (8 - j) := by
  have h : ∀ i : Nat, i < 9 → decide (mode / 2 ^ i % 2 = 1) = (m9 mode).testBit i := by
    intro i hi
    rw [Nat.testBit_eq_decide_div_mod_eq]
    unfold m9
    match i, hi with
    | 0, _ => simp; omega
    | 1, _ => simp; omega
    | 2, _ => simp; omega
    | 3, _ => simp; omega
    | 4, _ => simp; omega
    | 5, _ => simp; omega
    | 6, _ => simp; omega
    | 7, _ => simp; omega
    | 8, _ => simp; omega
  exact h (8 - j) (by omega)
theorem parse_sig (mode : Int) : parse (sigF (onP mode) 3) = some (octL (m9 mode)) := by
  have h := parse_sig9 (m9 mode) (m9_lt mode)
  rw [← sigF_congr (onP_bit mode)] at h
  cases hp : parse (sigF (onP mode) 3) with
  | none => rw [hp] at h; simp [encO, octL, enc1] at h
  | some l =>
    rw [hp] at h
    rw [encL_inj (a := l) (b := octL (m9 mode)) h]
theorem by_sig (mode x mask : Int) (dir : Bool) : byP (sigF (onP mode) 3) x mask dir = ((m9 mode : Nat) : Int) := by
  have hl : (sigF (onP mode) 3).length ≤ 4096 := by have := sigF_len (onP mode) 3; omega
  obtain ⟨h1, h2⟩ := parse_some hl (parse_sig mode)
  unfold byP
  rw [h2, if_pos rfl, h1, oct_apply _ _ (m9_lt _) (m9_lt _)]
end Go.Proofs.YtijknodbaddelaaDoor.Mo
