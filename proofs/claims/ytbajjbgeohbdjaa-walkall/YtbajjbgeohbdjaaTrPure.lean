/- What follows from a walk through the lists that came to its end, in plain words. -/
import Derived.Test.YtbajjbgeohbdjaaTrPlain
namespace Go.Proofs.Ytbajjbgeohbdjaa.Tr
open Go.RowKit Go.Proofs.Ytbajjbgeohbdjaa.Cu

/-- each directory was listed once at most -/
def Once (ns : List Nd) (T : List Nat) : Prop := ∀ x, (nd ns x).kind = 2 → T.count x ≤ 1
theorem goL_once (ns : List Nd) (vis : Nat → List Nat → Option (List Nat)) (hv : ∀ x T T', Once ns T → vis x T = some T' → Once ns T') (dir : Nat) : ∀ (l : List En) (T : List Nat) (d : Nat) (T' : List Nat) (d' : Nat), Once ns T → goL ns vis dir l T d = some (T', d') → Once ns T' := by
  intro l
  induction l with
  | nil => intro T d T' d' h e; simp [goL] at e; rw [← e.1]; exact h
  | cons e l ih =>
    intro T d T' d' h hg
    unfold goL at hg
    split at hg
    · cases hg
    split at hg
    · cases hg
    split at hg
    · rename_i hk2
      split at hg
      · cases hg
      · rename_i hc
        split at hg
        · cases hg
        · rename_i T1 hT1
          refine ih _ _ _ _ (hv _ _ _ ?_ hT1) hg
          intro x hx
          by_cases ex : x = e.node.toNat
          · subst ex; omega
          · rw [List.count_cons_of_ne (Ne.symm ex)]; exact h x hx
    · rename_i hk0 hk2
      refine ih _ _ _ _ ?_ hg
      intro x hx
      by_cases ex : x = e.node.toNat
      · subst ex; exact absurd hx hk2
      · rw [List.count_cons_of_ne (Ne.symm ex)]; exact h x hx
theorem visitP_once (ns : List Nd) : ∀ (f x : Nat) (T T' : List Nat), Once ns T → visitP ns f x T = some T' → Once ns T' := by
  intro f
  induction f with
  | zero => intro x T T' _ h; cases h
  | succ f ih =>
    intro x T T' ho h
    unfold visitP at h
    split at h
    · cases h
    · rename_i T1 d hg
      split at h
      · cases h; exact goL_once ns _ (fun x T T' h1 h2 => ih x T T' h1 h2) _ _ _ _ _ _ ho hg
      · cases h

/-! ### sums -/
def sumTo (n : Nat) (g : Nat → Nat) : Nat := ((List.range n).map g).sum
theorem sumTo_succ (n : Nat) (g : Nat → Nat) : sumTo (n + 1) g = sumTo n g + g n := by simp [sumTo, List.range_succ]
theorem sumTo_le (n : Nat) (g h : Nat → Nat) (hh : ∀ i, i < n → g i ≤ h i) : sumTo n g ≤ sumTo n h := by
  induction n with
  | zero => exact Nat.le_refl _
  | succ n ih =>
    rw [sumTo_succ, sumTo_succ]
    have h1 := ih fun i hi => hh i (by omega)
    have h2 := hh n (by omega)
    omega
theorem sumTo_eq (n : Nat) (g h : Nat → Nat) (hh : ∀ i, i < n → g i = h i) : sumTo n g = sumTo n h :=
  Nat.le_antisymm (sumTo_le n g h fun i hi => Nat.le_of_eq (hh i hi)) (sumTo_le n h g fun i hi => Nat.le_of_eq (hh i hi).symm)
theorem sumTo_add (n : Nat) (g h : Nat → Nat) : sumTo n (fun i => g i + h i) = sumTo n g + sumTo n h := by
  induction n with
  | zero => rfl
  | succ n ih => rw [sumTo_succ, sumTo_succ, sumTo_succ, ih]; omega
theorem sumTo_zero (n : Nat) : sumTo n (fun _ => 0) = 0 := by
  induction n with
  | zero => rfl
  | succ n ih => rw [sumTo_succ, ih]
theorem sumTo_one (n x : Nat) (g : Nat → Nat) (hx : x < n) : sumTo n (fun i => if i = x then g i else 0) = g x := by
  induction n with
  | zero => omega
  | succ n ih =>
    rw [sumTo_succ]
    by_cases e : x = n
    · subst e
      rw [sumTo_eq x _ (fun _ => 0) (fun i hi => by rw [if_neg (by omega)]), sumTo_zero, if_pos rfl]; omega
    · rw [ih (by omega), if_neg (by omega)]; rfl
/-- a sum over a list is one over all numbers, each as often as it stands in it -/
theorem sum_count (n : Nat) (g : Nat → Nat) : ∀ T : List Nat, (∀ x ∈ T, x < n) → (T.map g).sum = sumTo n (fun i => T.count i * g i) := by
  intro T
  induction T with
  | nil => intro _; simp [sumTo_zero]
  | cons x T ih =>
    intro h
    have e : sumTo n (fun i => (x :: T).count i * g i) = sumTo n (fun i => T.count i * g i + if i = x then g i else 0) := by
      refine sumTo_eq n _ _ fun i _ => ?_
      by_cases ex : i = x
      · subst ex; rw [List.count_cons_self, if_pos rfl, Nat.add_mul, Nat.one_mul]
      · rw [List.count_cons_of_ne (Ne.symm ex), if_neg ex]; rfl
    rw [e, sumTo_add, sumTo_one n x g (h x (by simp)), List.map_cons, List.sum_cons, ih fun y hy => h y (by simp [hy])]
    omega

/-! ### what a directory lists -/
/-- the nodes that a directory lists -/
def tg (ns : List Nd) (d : Nat) : List Nat := (nd ns d).list.map fun e => e.node.toNat
def wsum (wt : Nat → Nat) (T : List Nat) : Nat := (T.map wt).sum
/-- what the directories of T list, together -/
def below (ns : List Nd) (wt : Nat → Nat) (x : Nat) : Nat := if (nd ns x).kind = 2 then wsum wt (tg ns x) else 0
theorem wsum_cons (wt : Nat → Nat) (x : Nat) (T : List Nat) : wsum wt (x :: T) = wt x + wsum wt T := by simp [wsum]
theorem goL_sum (ns : List Nd) (wt : Nat → Nat) (vis : Nat → List Nat → Option (List Nat))
    (hv : ∀ x T T', vis x T = some T' → wsum wt T' + wsum (below ns wt) T = wsum wt T + wsum (below ns wt) T' + wsum wt (tg ns x)) (dir : Nat) :
    ∀ (l : List En) (T : List Nat) (d : Nat) (T' : List Nat) (d' : Nat), goL ns vis dir l T d = some (T', d') →
      wsum wt T' + wsum (below ns wt) T = wsum wt T + wsum (below ns wt) T' + wsum wt (l.map fun e => e.node.toNat) := by
  intro l
  induction l with
  | nil => intro T d T' d' e; simp [goL] at e; obtain ⟨rfl, rfl⟩ := e; simp [wsum]
  | cons e l ih =>
    intro T d T' d' hg
    rw [List.map_cons, wsum_cons]
    unfold goL at hg
    split at hg
    · cases hg
    split at hg
    · cases hg
    split at hg
    · rename_i hk2
      split at hg
      · cases hg
      · split at hg
        · cases hg
        · rename_i T1 hT1
          have h1 := hv _ _ _ hT1
          have h2 := ih _ _ _ _ hg
          rw [wsum_cons, wsum_cons] at h1
          have h3 : below ns wt e.node.toNat = wsum wt (tg ns e.node.toNat) := by unfold below; rw [if_pos hk2]
          omega
    · rename_i hk0 hk2
      have h2 := ih _ _ _ _ hg
      rw [wsum_cons, wsum_cons] at h2
      have h3 : below ns wt e.node.toNat = 0 := by unfold below; rw [if_neg hk2]
      omega
theorem visitP_sum (ns : List Nd) (wt : Nat → Nat) : ∀ (f x : Nat) (T T' : List Nat), visitP ns f x T = some T' → wsum wt T' + wsum (below ns wt) T = wsum wt T + wsum (below ns wt) T' + wsum wt (tg ns x) := by
  intro f
  induction f with
  | zero => intro x T T' h; cases h
  | succ f ih =>
    intro x T T' h
    unfold visitP at h
    split at h
    · cases h
    · rename_i T1 d hg
      split at h
      · cases h; exact goL_sum ns wt _ (fun x T T' h => ih x T T' h) _ _ _ _ _ _ hg
      · cases h
/-- what is listed is a node behind the root -/
theorem goL_in (ns : List Nd) (vis : Nat → List Nat → Option (List Nat)) (p : Nat → Prop) (hp : ∀ x, 1 < x → x < ns.length → (nd ns x).kind ≠ 0 → p x) (hv : ∀ x T T', (∀ y ∈ T, p y) → vis x T = some T' → ∀ y ∈ T', p y) (dir : Nat) :
    ∀ (l : List En) (T : List Nat) (d : Nat) (T' : List Nat) (d' : Nat), (∀ y ∈ T, p y) → goL ns vis dir l T d = some (T', d') → ∀ y ∈ T', p y := by
  intro l
  induction l with
  | nil => intro T d T' d' h e; simp [goL] at e; rw [← e.1]; exact h
  | cons e l ih =>
    intro T d T' d' h hg
    unfold goL at hg
    split at hg
    · cases hg
    rename_i hr
    split at hg
    · cases hg
    rename_i hk0
    have hnew : ∀ y ∈ e.node.toNat :: T, p y := by
      intro y hy
      rcases List.mem_cons.1 hy with rfl | hy
      · exact hp _ (by omega) (by omega) hk0
      · exact h y hy
    split at hg
    · split at hg
      · cases hg
      · split at hg
        · cases hg
        · rename_i T1 hT1
          exact ih _ _ _ _ (hv _ _ _ hnew hT1) hg
    · exact ih _ _ _ _ hnew hg
theorem visitP_in (ns : List Nd) (p : Nat → Prop) (hp : ∀ x, 1 < x → x < ns.length → (nd ns x).kind ≠ 0 → p x) : ∀ (f x : Nat) (T T' : List Nat), (∀ y ∈ T, p y) → visitP ns f x T = some T' → ∀ y ∈ T', p y := by
  intro f
  induction f with
  | zero => intro x T T' _ h; cases h
  | succ f ih =>
    intro x T T' hT h
    unfold visitP at h
    split at h
    · cases h
    · rename_i T1 d hg
      split at h
      · cases h; exact goL_in ns _ p hp (fun x T T' h1 h => ih x T T' h1 h) _ _ _ _ _ _ hT hg
      · cases h
theorem once_nil (ns : List Nd) : Once ns [] := fun _ _ => by simp
theorem names_sum (ns : List Nd) : ∀ k, k ≤ ns.length → namesP ns k = sumTo k (fun i => (nd ns i).list.length) := by
  intro k
  induction k with
  | zero => intro _; simp [namesP, sumTo]
  | succ k ih =>
    intro h
    have e : ns.take (k + 1) = ns.take k ++ [nd ns k] := by
      rw [List.take_succ_eq_append_getElem (by omega)]; simp [nd, List.getD, List.getElem?_eq_getElem (show k < ns.length by omega)]
    rw [sumTo_succ, ← ih (by omega)]
    unfold namesP
    rw [e]; simp
theorem wsum_one (T : List Nat) : wsum (fun _ => 1) T = T.length := by
  unfold wsum
  induction T with
  | nil => rfl
  | cons x T ih => rw [List.map_cons, List.sum_cons, ih, List.length_cons]; omega
/-- all that was listed is no more than all names twice -/
theorem visit_len (ns : List Nd) (f : Nat) (T : List Nat) (h1 : 1 < ns.length) (h : visitP ns f 1 [] = some T) : T.length ≤ 2 * namesP ns ns.length := by
  have hs := visitP_sum ns (fun _ => 1) f 1 [] T h
  have ho := visitP_once ns f 1 [] T (once_nil ns) h
  have hi := visitP_in ns (fun x => x < ns.length) (fun x _ h2 _ => h2) f 1 [] T (by simp) h
  simp only [wsum_one] at hs
  rw [show wsum (below ns fun _ => 1) [] = 0 from rfl, List.length_nil] at hs
  have e1 : wsum (below ns fun _ => 1) T ≤ namesP ns ns.length := by
    rw [names_sum ns ns.length (Nat.le_refl _)]
    unfold wsum
    rw [sum_count ns.length _ T hi]
    refine sumTo_le _ _ _ fun i _ => ?_
    unfold below
    split
    · rename_i hk
      have := ho i hk
      rw [wsum_one]
      unfold tg
      rw [List.length_map]
      calc T.count i * (nd ns i).list.length ≤ 1 * (nd ns i).list.length := Nat.mul_le_mul_right _ this
        _ = _ := Nat.one_mul _
    · simp
  have e2 : (tg ns 1).length ≤ namesP ns ns.length := by
    rw [names_sum ns ns.length (Nat.le_refl _)]
    have := sumTo_le ns.length (fun i => if i = 1 then (nd ns i).list.length else 0) (fun i => (nd ns i).list.length) (fun i _ => by split <;> omega)
    rw [sumTo_one ns.length 1 (fun i => (nd ns i).list.length) h1] at this
    unfold tg
    rw [List.length_map]; exact this
  omega
end Go.Proofs.Ytbajjbgeohbdjaa.Tr
