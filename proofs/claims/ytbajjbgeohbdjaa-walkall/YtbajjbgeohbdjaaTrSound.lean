/- What is known of a tree that may be, in plain words. -/
import Derived.Test.YtbajjbgeohbdjaaTrPure
namespace Go.Proofs.Ytbajjbgeohbdjaa.Tr
open Go.RowKit Go.Proofs.Ytbajjbgeohbdjaa.Cu

/-- a name of a directory leads to a node that says so -/
def okTo (ns : List Nd) (d : Nat) (e : En) : Prop := 1 < e.node ∧ e.node < (ns.length : Int) ∧ (nd ns e.node.toNat).kind ≠ 0 ∧ ((nd ns e.node.toNat).kind = 2 → (nd ns e.node.toNat).parent = (d : Int))
def dirsIn (ns : List Nd) (l : List En) : Nat := (l.filter fun e => decide ((nd ns e.node.toNat).kind = 2)).length
def Cond (ns : List Nd) (d : Nat) : Prop := (∀ e ∈ (nd ns d).list, okTo ns d e) ∧ (nd ns d).links = 2 + (dirsIn ns (nd ns d).list : Int)
/-- a directory leads up to the root by so many steps -/
inductive Up (ns : List Nd) : Nat → Nat → Prop
  | root : Up ns 0 1
  | step {s x p : Nat} : 1 < x → x < ns.length → (nd ns x).kind = 2 → (nd ns x).parent = (p : Int) → Up ns s p → Up ns (s + 1) x
theorem goL_cond (ns : List Nd) (vis : Nat → List Nat → Option (List Nat)) (p : Nat → Prop) (dir : Nat) (hp : ∀ x, 1 < x → x < ns.length → (nd ns x).kind = 2 → (nd ns x).parent = (dir : Int) → ∀ T T', (∀ y ∈ T, (nd ns y).kind = 2 → y ≠ x → p y) → vis x T = some T' → ∀ y ∈ T', (nd ns y).kind = 2 → p y) :
    ∀ (l : List En) (T : List Nat) (d : Nat) (T' : List Nat) (d' : Nat), (∀ y ∈ T, (nd ns y).kind = 2 → p y) → goL ns vis dir l T d = some (T', d') →
      (∀ e ∈ l, okTo ns dir e) ∧ d' = d + dirsIn ns l ∧ ∀ y ∈ T', (nd ns y).kind = 2 → p y := by
  intro l
  induction l with
  | nil => intro T d T' d' h e; simp [goL] at e; obtain ⟨rfl, rfl⟩ := e; exact ⟨by simp, rfl, h⟩
  | cons e l ih =>
    intro T d T' d' h hg
    unfold goL at hg
    split at hg
    · cases hg
    rename_i hr
    split at hg
    · cases hg
    rename_i hk0
    split at hg
    · rename_i hk2
      split at hg
      · cases hg
      · rename_i hc
        split at hg
        · cases hg
        · rename_i T1 hT1
          have hpar : (nd ns e.node.toNat).parent = (dir : Int) := Decidable.byContradiction fun h => hc (.inr h)
          have h1 := hp e.node.toNat (by omega) (by omega) hk2 hpar (e.node.toNat :: T) T1 (by
            intro y hy hky hne
            rcases List.mem_cons.1 hy with rfl | hy
            · exact absurd rfl hne
            · exact h y hy hky) hT1
          obtain ⟨a1, a2, a3⟩ := ih _ _ _ _ h1 hg
          refine ⟨?_, ?_, a3⟩
          · intro x hx
            rcases List.mem_cons.1 hx with rfl | hx
            · exact ⟨by omega, by omega, hk0, fun _ => hpar⟩
            · exact a1 x hx
          · rw [a2]; unfold dirsIn; rw [List.filter_cons, if_pos (by simp [hk2]), List.length_cons]; omega
    · rename_i hk2
      have h1 : ∀ y ∈ e.node.toNat :: T, (nd ns y).kind = 2 → p y := by
        intro y hy hky
        rcases List.mem_cons.1 hy with rfl | hy
        · exact absurd hky hk2
        · exact h y hy hky
      obtain ⟨a1, a2, a3⟩ := ih _ _ _ _ h1 hg
      refine ⟨?_, ?_, a3⟩
      · intro x hx
        rcases List.mem_cons.1 hx with rfl | hx
        · exact ⟨by omega, by omega, hk0, fun h => absurd h hk2⟩
        · exact a1 x hx
      · rw [a2]; unfold dirsIn; rw [List.filter_cons, if_neg (by simp [hk2])]
/-- a directory is as it must be, and leads up to the root -/
def Good (ns : List Nd) (x : Nat) : Prop := Cond ns x ∧ ∃ s, s ≤ 32 ∧ Up ns s x
theorem visitP_cond (ns : List Nd) : ∀ (f x : Nat) (T T' : List Nat) (A : Nat → Prop), f ≤ 33 → Up ns (33 - f) x → (∀ y ∈ T, (nd ns y).kind = 2 → y = x ∨ A y ∨ Good ns y) → visitP ns f x T = some T' →
    Good ns x ∧ ∀ y ∈ T', (nd ns y).kind = 2 → A y ∨ Good ns y := by
  intro f
  induction f with
  | zero => intro x T T' A _ _ _ h; cases h
  | succ f ih =>
    intro x T T' A hf hup hT h
    unfold visitP at h
    split at h
    · cases h
    · rename_i T1 d hg
      split at h
      · rename_i hlk
        cases h
        have hux : ∃ s, s ≤ 32 ∧ Up ns s x := ⟨33 - (f + 1), by omega, hup⟩
        obtain ⟨a1, a2, a3⟩ := goL_cond ns (visitP ns f) (fun y => y = x ∨ A y ∨ Good ns y) x (by
          intro z hz1 hz2 hz3 hz4 T2 T3 h2 h3 y hy hky
          have huz : Up ns (33 - f) z := by
            have : 33 - f = (33 - (f + 1)) + 1 := by omega
            rw [this]; exact Up.step hz1 hz2 hz3 hz4 hup
          have h4 := (ih z T2 T3 (fun y => y = x ∨ A y) (by omega) huz (fun y hy hk => by
            by_cases ez : y = z
            · exact .inl ez
            · right
              rcases h2 y hy hk ez with h | h | h
              · exact .inl (.inl h)
              · exact .inl (.inr h)
              · exact .inr h) h3).2 y hy hky
          rcases h4 with (h | h) | h
          · exact .inl h
          · exact .inr (.inl h)
          · exact .inr (.inr h)) _ _ _ _ _ hT hg
        rw [Nat.zero_add] at a2
        subst a2
        have hgx : Good ns x := ⟨⟨a1, hlk⟩, hux⟩
        refine ⟨hgx, fun y hy hk => ?_⟩
        rcases a3 y hy hk with rfl | h
        · exact .inr hgx
        · exact h
      · cases h
/-- how often a node is listed by all directories -/
def times (ns : List Nd) (x : Nat) : Nat := sumTo ns.length fun y => if (nd ns y).kind = 2 then (tg ns y).count x else 0
theorem wsum_count (x : Nat) (T : List Nat) : wsum (fun z => if z = x then 1 else 0) T = T.count x := by
  induction T with
  | nil => rfl
  | cons y T ih =>
    rw [wsum_cons, ih]
    by_cases e : y = x
    · subst e; rw [List.count_cons_self, if_pos rfl]; omega
    · rw [List.count_cons_of_ne e, if_neg e]; omega
/-- what holds of a tree whose lists hang together -/
structure Hung (ns : List Nd) : Prop where
  good : ∀ d, d < ns.length → (nd ns d).kind = 2 → Good ns d
  listed : ∀ x, 2 ≤ x → x < ns.length → (nd ns x).kind ≠ 0 → 1 ≤ times ns x
  once : ∀ x, 2 ≤ x → x < ns.length → (nd ns x).kind = 2 → times ns x = 1
  links : ∀ x, 2 ≤ x → x < ns.length → (nd ns x).kind ≠ 0 → (nd ns x).kind ≠ 2 → (nd ns x).links = (times ns x : Int)
theorem hung_of {ns : List Nd} (h1 : 1 < ns.length) (h0 : (nd ns 0).kind = 0) (hk : (nd ns 1).kind = 2) (h : hangsP ns = true) : Hung ns := by
  unfold hangsP at h
  split at h
  · cases h
  rename_i T hT
  have ho := visitP_once ns 33 1 [] T (once_nil ns) hT
  have hi := visitP_in ns (fun x => 1 < x ∧ x < ns.length) (fun x a b _ => ⟨a, b⟩) 33 1 [] T (by simp) hT
  have hg := visitP_cond ns 33 1 [] T (fun _ => False) (Nat.le_refl _) Up.root (by simp) hT
  unfold listedP at h
  have hl : ∀ x, 2 ≤ x → x < ns.length → (nd ns x).kind ≠ 0 → 1 ≤ T.count x ∧ ((nd ns x).kind ≠ 2 → (nd ns x).links = (T.count x : Int)) := by
    intro x hx2 hxn hxk
    have := allTo_true.1 h (x - 2) (by omega)
    unfold listedOk oneListed at this
    rw [show x - 2 + 2 = x by omega] at this
    simp only [Bool.or_eq_true, Bool.and_eq_true, Bool.not_eq_true', decide_eq_true_eq, decide_eq_false_iff_not] at this
    rcases this with h | ⟨h, h'⟩
    · exact absurd h hxk
    · refine ⟨by omega, fun h2 => ?_⟩
      rcases h' with h' | h'
      · exact absurd h' h2
      · exact h'
  have hc1 : T.count 1 = 0 := List.count_eq_zero.2 fun hm => by have := (hi 1 hm).1; omega
  have ht : ∀ x, T.count x = times ns x := by
    intro x
    have hs := visitP_sum ns (fun z => if z = x then 1 else 0) 33 1 [] T hT
    rw [wsum_count, wsum_count, wsum_count, show wsum (below ns fun z => if z = x then 1 else 0) [] = 0 from rfl, List.count_nil] at hs
    have e1 : wsum (below ns fun z => if z = x then 1 else 0) T = sumTo ns.length fun y => T.count y * (if (nd ns y).kind = 2 then (tg ns y).count x else 0) := by
      unfold wsum
      rw [sum_count ns.length _ T fun y hy => (hi y hy).2]
      refine sumTo_eq _ _ _ fun y _ => ?_
      unfold below
      rw [wsum_count]
    have e2 : times ns x = sumTo ns.length (fun y => T.count y * (if (nd ns y).kind = 2 then (tg ns y).count x else 0) + if y = 1 then (tg ns y).count x else 0) := by
      unfold times
      refine sumTo_eq _ _ _ fun y hy => ?_
      by_cases hk2 : (nd ns y).kind = 2
      · rw [if_pos hk2]
        by_cases ey : y = 1
        · subst ey; rw [if_pos rfl, hc1]; omega
        · have hy2 : 2 ≤ y := by
            by_cases y0 : y = 0
            · subst y0; rw [h0] at hk2; exact absurd hk2 (by decide)
            · omega
          have a1 := ho y hk2
          have a2 := (hl y hy2 hy (by rw [hk2]; decide)).1
          rw [show T.count y = 1 by omega, if_neg ey]; omega
      · rw [if_neg hk2, if_neg (fun e => hk2 (by rw [e]; exact hk))]; omega
    rw [sumTo_add, sumTo_one ns.length 1 (fun y => (tg ns y).count x) h1] at e2
    omega
  refine ⟨fun d hd hk2 => ?_, fun x a b c => ?_, fun x a b c => ?_, fun x a b c d => ?_⟩
  · by_cases e1 : d = 1
    · subst e1; exact hg.1
    · by_cases e0 : d = 0
      · subst e0; rw [h0] at hk2; exact absurd hk2 (by decide)
      · have hm : d ∈ T := List.count_pos_iff.1 (by have := (hl d (by omega) hd (by rw [hk2]; decide)).1; omega)
        rcases hg.2 d hm hk2 with h | h
        · exact h.elim
        · exact h
  · rw [← ht]; exact (hl x a b c).1
  · rw [← ht]
    have a1 := ho x c
    have a2 := (hl x a b (by rw [c]; decide)).1
    omega
  · rw [← ht]; exact (hl x a b c).2 d
theorem checkP_parts {now : Int} {ns : List Nd} (h : checkP now ns = true) : 2 ≤ ns.length ∧ ns.length ≤ 513 ∧ (nd ns 0).kind = 0 ∧ (nd ns 1).kind = 2 ∧ (nd ns 1).parent = 1 ∧ (∀ i, i < ns.length → kindP (nd ns i) = true) ∧ hangsP ns = true ∧ limitsP ns = true ∧ timeP now = true := by
  unfold checkP rootP nodesP at h
  simp only [Bool.and_eq_true, decide_eq_true_eq] at h
  obtain ⟨⟨⟨⟨t, ⟨⟨⟨⟨⟨a, b⟩, c⟩, d⟩, e⟩, f⟩⟩, g⟩, i⟩, j⟩ := h
  exact ⟨a, b, c, d, e, fun k hk => allTo_true.1 i k hk, j, g, t⟩
theorem hung_check {now : Int} {ns : List Nd} (h : checkP now ns = true) : Hung ns := by
  obtain ⟨a, _, c, d, _, _, g, _⟩ := checkP_parts h
  exact hung_of a c d g
end Go.Proofs.Ytbajjbgeohbdjaa.Tr
