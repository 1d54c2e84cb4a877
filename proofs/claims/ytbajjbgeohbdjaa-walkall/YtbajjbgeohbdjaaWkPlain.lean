/- A walk through a tree, in plain words: its steps, how many there are, what they lead to. -/
import Derived.Test.YtbajjbgeohbdjaaPtPlain
namespace Go.Proofs.Ytbajjbgeohbdjaa.Wk
open Go.RowKit Go.Proofs.Ytbajjbgeohbdjaa.Cu Go.Proofs.Ytbajjbgeohbdjaa.Tr Go.Proofs.Ytbajjbgeohbdjaa.Pm Go.Proofs.Ytbajjbgeohbdjaa.Pt

/-- a step -/
structure Sp where
  path : ByteArray
  node : Int
  depth : Int
  after : Bool
def jnP (p n : ByteArray) : ByteArray := tx (joinB (bs p) (bs n))
/-- whether a directory is gone into -/
def enP (ns : List Nd) (e : Ev) (deep : Int) (n : Nat) (d : Nat) : Bool := decide ((d : Int) < deep) && mayP (nd ns n) e 5
def wkL (g : ByteArray → Nat → List Sp) (p : ByteArray) : List En → List Sp
  | [] => []
  | x :: l => g (jnP p x.name) x.node.toNat ++ wkL g p l
def lsP (ns : List Nd) (e : Ev) (deep : Int) (n d : Nat) : List En := if enP ns e deep n d then (nd ns n).list else []
/-- all that is come to from a node on -/
def wkP (ns : List Nd) (e : Ev) (deep : Int) : Nat → Nat → ByteArray → Nat → List Sp
  | 0, _, _, _ => []
  | f + 1, d, p, n =>
    if (nd ns n).kind = 2 then ⟨p, n, d, false⟩ :: (wkL (wkP ns e deep f (d + 1)) p (lsP ns e deep n d) ++ [⟨p, n, d, true⟩])
    else [⟨p, n, d, false⟩]
theorem wkL_app (g : ByteArray → Nat → List Sp) (p : ByteArray) (a b : List En) : wkL g p (a ++ b) = wkL g p a ++ wkL g p b := by
  induction a with
  | nil => rfl
  | cons x a ih => rw [List.cons_append, wkL, wkL, ih, List.append_assoc]
/-- the directories that can't be gone into -/
def shP (ns : List Nd) (e : Ev) (deep : Int) (s : Sp) : Bool := !s.after && (decide ((nd ns s.node.toNat).kind = 2) && (decide (s.depth < deep) && !mayP (nd ns s.node.toNat) e 5))
def shL (ns : List Nd) (e : Ev) (deep : Int) (l : List Sp) : List ByteArray := (l.filter (shP ns e deep)).map (·.path)

/-! ### how deep -/
theorem up_inj {ns : List Nd} {s x : Nat} (h : Up ns s x) : ∀ {t : Nat}, Up ns t x → s = t := by
  induction h with
  | root =>
    intro t ht
    cases ht with
    | root => rfl
    | step a _ _ _ _ => exact absurd a (by decide)
  | @step s x p h1 h2 h3 h4 h5 ih =>
    intro t ht
    cases ht with
    | root => exact absurd h1 (by decide)
    | @step t x p' _ _ _ h4' h5' =>
      obtain rfl : p = p' := by rw [h4] at h4'; exact_mod_cast h4'
      rw [ih h5']
/-- a walk from here on has come to its end with so much -/
def Fu (ns : List Nd) (f n : Nat) : Prop := 0 < f ∧ ((nd ns n).kind = 2 → ∃ s, Up ns s n ∧ 34 ≤ s + f)
structure In (ns : List Nd) (f n : Nat) : Prop where
  lt : n < ns.length
  pos : 0 < n
  kind : (nd ns n).kind ≠ 0
  fu : Fu ns f n
theorem In.child {ns : List Nd} (hh : Hung ns) {f n : Nat} (h : In ns (f + 1) n) (hk : (nd ns n).kind = 2) {x : En} (hx : x ∈ (nd ns n).list) :
    In ns f x.node.toNat ∧ 1 < x.node.toNat ∧ x.node = (x.node.toNat : Int) ∧ ∀ s, Up ns s n → (nd ns x.node.toNat).kind = 2 → Up ns (s + 1) x.node.toNat := by
  obtain ⟨⟨hc, _⟩, t, ht, hu⟩ := hh.good n h.lt hk
  obtain ⟨a, b, c, d⟩ := hc x hx
  have hup : ∀ s, Up ns s n → (nd ns x.node.toNat).kind = 2 → Up ns (s + 1) x.node.toNat := fun s hs hk2 => Up.step (by omega) (by omega) hk2 (d hk2) hs
  obtain ⟨s, hs, hsf⟩ := h.fu.2 hk
  have := up_inj hs hu
  refine ⟨⟨by omega, by omega, c, ⟨by omega, fun hk2 => ⟨s + 1, hup s hs hk2, by omega⟩⟩⟩, by omega, by omega, hup⟩
theorem lsP_mem {ns : List Nd} {e : Ev} {deep : Int} {n d : Nat} {x : En} (h : x ∈ lsP ns e deep n d) : x ∈ (nd ns n).list := by
  unfold lsP at h
  split at h
  · exact h
  · cases h
/-- what is said of all steps -/
theorem wk_all {ns : List Nd} (hh : Hung ns) (e : Ev) (deep : Int) (Q : Nat → Nat → ByteArray → Nat → Prop) (P : Sp → Prop)
    (h1 : ∀ f d p n, In ns (f + 1) n → Q (f + 1) d p n → P ⟨p, n, d, false⟩ ∧ ((nd ns n).kind = 2 → P ⟨p, n, d, true⟩))
    (h2 : ∀ f d p n x, In ns (f + 1) n → Q (f + 1) d p n → (nd ns n).kind = 2 → x ∈ lsP ns e deep n d → Q f (d + 1) (jnP p x.name) x.node.toNat) :
    ∀ f d p n, In ns f n → Q f d p n → ∀ s ∈ wkP ns e deep f d p n, P s := by
  intro f
  induction f with
  | zero => intro d p n _ _ s hs; cases hs
  | succ f ih =>
    intro d p n hi hq s hs
    have hb := h1 f d p n hi hq
    unfold wkP at hs
    split at hs
    · rename_i hk
      rcases List.mem_cons.1 hs with rfl | hs
      · exact hb.1
      rcases List.mem_append.1 hs with hs | hs
      · have key : ∀ l : List En, (∀ x ∈ l, x ∈ lsP ns e deep n d) → s ∈ wkL (wkP ns e deep f (d + 1)) p l → P s := by
          intro l
          induction l with
          | nil => intro _ h; cases h
          | cons x l ihl =>
            intro hl h
            rw [wkL] at h
            have hx := hl x (by simp)
            rcases List.mem_append.1 h with h | h
            · exact ih _ _ _ (hi.child hh hk (lsP_mem hx)).1 (h2 f d p n x hi hq hk hx) s h
            · exact ihl (fun y hy => hl y (by simp [hy])) h
        exact key _ (fun x hx => hx) hs
      · rw [List.mem_singleton.1 hs]; exact hb.2 hk
    · rw [List.mem_singleton.1 hs]; exact hb.1
/-- a step leads to a node that is there -/
theorem wk_in {ns : List Nd} (hh : Hung ns) (e : Ev) (deep : Int) {f d : Nat} {p : ByteArray} {n : Nat} (h : In ns f n) : ∀ s ∈ wkP ns e deep f d p n, ∃ k : Nat, s.node = (k : Int) ∧ 0 < k ∧ k < ns.length ∧ (nd ns k).kind ≠ 0 ∧ (s.after = true → (nd ns k).kind = 2) ∧ ∃ j : Nat, s.depth = (j : Int) :=
  wk_all hh e deep (fun _ _ _ _ => True) _ (fun f d p n hi _ => ⟨⟨n, rfl, hi.pos, hi.lt, hi.kind, fun h => (by cases h), d, rfl⟩, fun hk => ⟨n, rfl, hi.pos, hi.lt, hi.kind, fun _ => hk, d, rfl⟩⟩) (fun _ _ _ _ _ _ _ _ _ => trivial) f d p n h trivial
theorem jn_size (p n : ByteArray) : (jnP p n).size ≤ p.size + n.size + 1 := by
  have e : ∀ c : Bs, (tx c).size = c.length := fun c => by rw [← bs_len, bs_tx]
  unfold jnP
  rw [e]
  unfold joinB
  split
  · rw [List.length_append, bs_len, bs_len]; omega
  · rw [List.length_append, List.length_cons, bs_len, bs_len]; omega
theorem name_le {now : Int} {ns : List Nd} (hc : checkP now ns = true) {n : Nat} (h0 : 0 < n) (hn : n < ns.length) (hk : (nd ns n).kind = 2) {x : En} (hx : x ∈ (nd ns n).list) : nameP x.name = true := by
  have hl := dr_list hc ⟨h0, hn, hk⟩
  unfold listP at hl
  simp only [Bool.and_eq_true, decide_eq_true_eq] at hl
  obtain ⟨k, hk1, hk2⟩ := List.getElem_of_mem hx
  have := allTo_true.1 hl.2 k hk1
  unfold okE at this
  simp only [Bool.and_eq_true] at this
  have e : en (nd ns n).list k = x := by unfold en; rw [List.getD, List.getElem?_eq_getElem hk1, hk2]; rfl
  rw [e] at this
  exact this.1
theorem wk_path {now : Int} {ns : List Nd} (hc : checkP now ns = true) (e : Ev) (deep : Int) (m : Nat) {f d : Nat} {p : ByteArray} {n : Nat} (h : In ns f n) (hp : p.size + f * 65 ≤ m) : ∀ s ∈ wkP ns e deep f d p n, s.path.size ≤ m := by
  refine wk_all (hung_check hc) e deep (fun f _ p _ => p.size + f * 65 ≤ m) _ (fun f d p n _ hq => ⟨by show p.size ≤ m; omega, fun _ => by show p.size ≤ m; omega⟩) (fun f d p n x hi hq hk hx => ?_) f d p n h hp
  have h1 := name_le hc hi.pos hi.lt hk (lsP_mem hx)
  have h2 := jn_size p x.name
  unfold nameP at h1
  simp only [Bool.and_eq_true, decide_eq_true_eq] at h1
  omega

/-! ### how many -/
/-- the nodes that are come to, behind which nothing was yet -/
def vsL (l : List Sp) : List Nat := (l.filter fun s => !s.after).map fun s => s.node.toNat
theorem vsL_app (a b : List Sp) : vsL (a ++ b) = vsL a ++ vsL b := by unfold vsL; rw [List.filter_append, List.map_append]
theorem vsL_one (p : ByteArray) (n : Int) (d : Int) : vsL [⟨p, n, d, false⟩] = [n.toNat] := rfl
theorem vsL_after (p : ByteArray) (n : Int) (d : Int) : vsL [⟨p, n, d, true⟩] = [] := rfl
theorem wsum_app (wt : Nat → Nat) (a b : List Nat) : wsum wt (a ++ b) = wsum wt a + wsum wt b := by unfold wsum; rw [List.map_append, List.sum_append]
/-- what a step's directory lists, if it is gone into -/
def bel (ns : List Nd) (e : Ev) (deep : Int) (wt : Nat → Nat) (s : Sp) : Nat := if s.after = false ∧ (nd ns s.node.toNat).kind = 2 then wsum wt ((lsP ns e deep s.node.toNat s.depth.toNat).map fun x => x.node.toNat) else 0
def bels (ns : List Nd) (e : Ev) (deep : Int) (wt : Nat → Nat) (l : List Sp) : Nat := (l.map (bel ns e deep wt)).sum
theorem bels_app (ns : List Nd) (e : Ev) (deep : Int) (wt : Nat → Nat) (a b : List Sp) : bels ns e deep wt (a ++ b) = bels ns e deep wt a + bels ns e deep wt b := by unfold bels; rw [List.map_append, List.sum_append]
theorem wk_sum {ns : List Nd} (hh : Hung ns) (e : Ev) (deep : Int) (wt : Nat → Nat) : ∀ f d p n, In ns f n → wsum wt (vsL (wkP ns e deep f d p n)) = wt n + bels ns e deep wt (wkP ns e deep f d p n) := by
  intro f
  induction f with
  | zero => intro d p n h; exact absurd h.fu.1 (by decide)
  | succ f ih =>
    intro d p n hi
    unfold wkP
    split
    · rename_i hk
      have key : ∀ l : List En, (∀ x ∈ l, x ∈ lsP ns e deep n d) → wsum wt (vsL (wkL (wkP ns e deep f (d + 1)) p l)) = wsum wt (l.map fun x => x.node.toNat) + bels ns e deep wt (wkL (wkP ns e deep f (d + 1)) p l) := by
        intro l
        induction l with
        | nil => intro _; rfl
        | cons x l ihl =>
          intro hl
          have h1 := ih (d + 1) (jnP p x.name) x.node.toNat (hi.child hh hk (lsP_mem (hl x (by simp)))).1
          have h2 := ihl fun y hy => hl y (by simp [hy])
          rw [wkL, vsL_app, wsum_app, bels_app, h1, h2, List.map_cons, wsum_cons]
          omega
      have h1 := key _ fun x hx => hx
      have e1 : ∀ (s : Sp) (l : List Sp), bels ns e deep wt (s :: l) = bel ns e deep wt s + bels ns e deep wt l := fun s l => by unfold bels; rw [List.map_cons, List.sum_cons]
      have e2 : bel ns e deep wt ⟨p, n, d, false⟩ = wsum wt ((lsP ns e deep n d).map fun x => x.node.toNat) := by
        unfold bel; simp only [Int.toNat_natCast]; rw [if_pos ⟨trivial, hk⟩]
      have e3 : bels ns e deep wt [⟨p, n, d, true⟩] = 0 := by
        rw [e1]; unfold bel; rw [if_neg (by simp)]; rfl
      have e4 : vsL (⟨p, (n : Int), (d : Int), false⟩ :: (wkL (wkP ns e deep f (d + 1)) p (lsP ns e deep n d) ++ [⟨p, n, d, true⟩])) = n :: vsL (wkL (wkP ns e deep f (d + 1)) p (lsP ns e deep n d)) := by
        rw [← List.singleton_append, vsL_app, vsL_app, vsL_one, vsL_after, List.append_nil]; rfl
      rw [e4, wsum_cons, e1, bels_app, e2, e3, h1]
      omega
    · rename_i hk
      rw [vsL_one]
      unfold bels bel
      simp only [Int.toNat_natCast, List.map_cons, List.map_nil, List.sum_cons, List.sum_nil]
      rw [if_neg (fun h => hk h.2), wsum_cons]
      rfl
/-- a directory is not above where the walk began -/
theorem wk_up {ns : List Nd} (hh : Hung ns) (e : Ev) (deep : Int) {f d : Nat} {p : ByteArray} {n s : Nat} (h : In ns f n) (hs : Up ns s n) :
    ∀ q ∈ wkP ns e deep f d p n, (nd ns q.node.toNat).kind = 2 → ∃ t, Up ns t q.node.toNat ∧ s ≤ t := by
  refine wk_all hh e deep (fun _ _ _ n => (nd ns n).kind = 2 → ∃ t, Up ns t n ∧ s ≤ t) _ (fun f d p n _ hq => ⟨hq, fun _ => hq⟩) (fun f d p n x hi hq hk hx hk2 => ?_) f d p n h fun _ => ⟨s, hs, Nat.le_refl _⟩
  obtain ⟨t, ht, hst⟩ := hq hk
  exact ⟨t + 1, (hi.child hh hk (lsP_mem hx)).2.2.2 t ht hk2, by omega⟩
theorem vs_mem {l : List Sp} {y : Nat} (h : y ∈ vsL l) : ∃ s ∈ l, s.node.toNat = y := by
  unfold vsL at h
  obtain ⟨s, hs, e⟩ := List.mem_map.1 h
  exact ⟨s, (List.mem_filter.1 hs).1, e⟩
theorem vs_in {ns : List Nd} (hh : Hung ns) {e : Ev} {deep : Int} {f d : Nat} {p : ByteArray} {n : Nat} (h : In ns f n) {y : Nat} (hy : y ∈ vsL (wkP ns e deep f d p n)) : 0 < y ∧ y < ns.length ∧ (nd ns y).kind ≠ 0 := by
  obtain ⟨s, hs, rfl⟩ := vs_mem hy
  obtain ⟨k, e1, e2, e3, e4, _⟩ := wk_in hh e deep h s hs
  rw [e1, Int.toNat_natCast]
  exact ⟨e2, e3, e4⟩
theorem lsP_sum {ns : List Nd} (wt : Nat → Nat) (e : Ev) (deep : Int) (n d : Nat) : wsum wt ((lsP ns e deep n d).map fun x => x.node.toNat) ≤ wsum wt (tg ns n) := by
  unfold lsP tg
  split
  · exact Nat.le_refl _
  · exact Nat.zero_le _
/-- what the steps' directories list is no more than what all of these list, as often as they are come to -/
theorem bels_le {ns : List Nd} (e : Ev) (deep : Int) (wt : Nat → Nat) (l : List Sp) : bels ns e deep wt l ≤ wsum (below ns wt) (vsL l) := by
  induction l with
  | nil => exact Nat.le_refl _
  | cons s l ih =>
    rw [← List.singleton_append, bels_app, vsL_app, wsum_app]
    refine Nat.add_le_add ?_ ih
    unfold bels bel vsL wsum below
    simp only [List.map_cons, List.map_nil, List.sum_cons, List.sum_nil, List.filter_cons, List.filter_nil]
    cases h : s.after with
    | true => simp
    | false =>
      simp only [Bool.not_false, if_true, List.map_cons, List.map_nil, List.sum_cons, List.sum_nil, true_and]
      split
      · exact Nat.add_le_add_right (lsP_sum wt e deep _ _) 0
      · exact Nat.le_refl _
theorem tg_count {ns : List Nd} (hh : Hung ns) {z p y : Nat} (hk : (nd ns z).kind = 2) (hp : (nd ns z).parent = (p : Int)) (hy : y < ns.length) (hky : (nd ns y).kind = 2) (hne : y ≠ p) : (tg ns y).count z = 0 := by
  refine List.count_eq_zero.2 fun hm => ?_
  unfold tg at hm
  obtain ⟨e, he, hed⟩ := List.mem_map.1 hm
  have := ((hh.good y hy hky).1.1 e he).2.2.2 (by rw [hed]; exact hk)
  rw [hed, hp] at this
  exact hne (by omega)
theorem tg_le {ns : List Nd} (hh : Hung ns) {z y : Nat} (hz : 2 ≤ z) (hn : z < ns.length) (hk : (nd ns z).kind = 2) (hy : y < ns.length) (hky : (nd ns y).kind = 2) : (tg ns y).count z ≤ 1 := by
  have ht := hh.once z hz hn hk
  unfold times at ht
  have := sumTo_le ns.length (fun j => if j = y then (tg ns j).count z else 0) (fun j => if (nd ns j).kind = 2 then (tg ns j).count z else 0) (fun j _ => by
    by_cases ej : j = y
    · subst ej; rw [if_pos rfl, if_pos hky]; exact Nat.le_refl _
    · rw [if_neg ej]; exact Nat.zero_le _)
  rw [sumTo_one ns.length y (fun j => (tg ns j).count z) hy] at this
  omega
theorem tg_root {ns : List Nd} (hh : Hung ns) {y : Nat} (hy : y < ns.length) (hky : (nd ns y).kind = 2) : (tg ns y).count 1 = 0 := by
  refine List.count_eq_zero.2 fun hm => ?_
  unfold tg at hm
  obtain ⟨e, he, hed⟩ := List.mem_map.1 hm
  have := ((hh.good y hy hky).1.1 e he).1
  omega
theorem wsum_le (g h : Nat → Nat) (l : List Nat) (hl : ∀ x ∈ l, g x ≤ h x) : wsum g l ≤ wsum h l := by
  induction l with
  | nil => exact Nat.le_refl _
  | cons x l ih =>
    rw [wsum_cons, wsum_cons]
    exact Nat.add_le_add (hl x (by simp)) (ih fun y hy => hl y (by simp [hy]))
theorem below_count (ns : List Nd) (z y : Nat) : below ns (fun x => if x = z then 1 else 0) y = if (nd ns y).kind = 2 then (tg ns y).count z else 0 := by unfold below; rw [wsum_count]
/-- a directory is come to once at most -/
theorem wk_once {ns : List Nd} (hh : Hung ns) (hr : (nd ns 1).kind = 2) (e : Ev) (deep : Int) {f d : Nat} {p : ByteArray} {n : Nat} (h : In ns f n) {s z : Nat} (hz : Up ns s z) : (nd ns z).kind = 2 → (vsL (wkP ns e deep f d p n)).count z ≤ 1 := by
  have hsum : ∀ z, (vsL (wkP ns e deep f d p n)).count z ≤ (if n = z then 1 else 0) + wsum (fun y => if (nd ns y).kind = 2 then (tg ns y).count z else 0) (vsL (wkP ns e deep f d p n)) := by
    intro z
    have h1 := wk_sum hh e deep (fun x => if x = z then 1 else 0) f d p n h
    have h2 := bels_le (ns := ns) e deep (fun x => if x = z then 1 else 0) (wkP ns e deep f d p n)
    rw [wsum_count] at h1
    have h3 := wsum_le (below ns fun x => if x = z then 1 else 0) (fun y => if (nd ns y).kind = 2 then (tg ns y).count z else 0) (vsL (wkP ns e deep f d p n)) (fun y _ => by rw [below_count]; exact Nat.le_refl _)
    omega
  have hin := fun y hy => vs_in hh (e := e) (deep := deep) (d := d) (p := p) h (y := y) hy
  induction hz with
  | root =>
    intro _
    have h1 := hsum 1
    have h2 : wsum (fun y => if (nd ns y).kind = 2 then (tg ns y).count 1 else 0) (vsL (wkP ns e deep f d p n)) ≤ wsum (fun _ => 0) (vsL (wkP ns e deep f d p n)) := wsum_le _ _ _ fun y hy => by
      split
      · rename_i hk; rw [tg_root hh (hin y hy).2.1 hk]; exact Nat.le_refl _
      · exact Nat.le_refl _
    have h3 : ∀ l : List Nat, wsum (fun _ => 0) l = 0 := fun l => by
      induction l with
      | nil => rfl
      | cons x l ih => rw [wsum_cons, ih]
    rw [h3] at h2
    split at h1 <;> omega
  | @step s z q h1 h2 h3 h4 h5 ih =>
    intro hk
    have a1 := hsum z
    have a2 : wsum (fun y => if (nd ns y).kind = 2 then (tg ns y).count z else 0) (vsL (wkP ns e deep f d p n)) ≤ wsum (fun y => if y = q then 1 else 0) (vsL (wkP ns e deep f d p n)) := wsum_le _ _ _ fun y hy => by
      split
      · rename_i hky
        by_cases ey : y = q
        · rw [if_pos ey]; exact tg_le hh (by omega) h2 h3 (hin y hy).2.1 hky
        · rw [tg_count hh h3 h4 (hin y hy).2.1 hky ey]; exact Nat.zero_le _
      · exact Nat.zero_le _
    rw [wsum_count] at a2
    have a3 : (nd ns q).kind = 2 := by
      cases h5 with
      | root => exact hr
      | step _ _ b _ _ => exact b
    have a4 := ih a3
    by_cases en : n = z
    · subst en
      have a5 : (vsL (wkP ns e deep f d p n)).count q = 0 := by
        refine List.count_eq_zero.2 fun hm => ?_
        obtain ⟨t, ht, e1⟩ := vs_mem hm
        obtain ⟨u, hu, hsu⟩ := wk_up hh e deep h (Up.step h1 h2 h3 h4 h5) t ht (by rw [e1]; exact a3)
        rw [e1] at hu
        have := up_inj hu h5
        omega
      rw [if_pos rfl] at a1
      omega
    · rw [if_neg en] at a1
      omega
theorem up_of {ns : List Nd} (hh : Hung ns) {z : Nat} (hz : z < ns.length) (hk : (nd ns z).kind = 2) : ∃ s, Up ns s z := by
  obtain ⟨_, s, _, h⟩ := hh.good z hz hk
  exact ⟨s, h⟩
theorem len_vs {ns : List Nd} (e : Ev) (deep : Int) : ∀ f d p n, (wkP ns e deep f d p n).length ≤ 2 * (vsL (wkP ns e deep f d p n)).length := by
  intro f
  induction f with
  | zero => intro d p n; exact Nat.zero_le _
  | succ f ih =>
    intro d p n
    unfold wkP
    split
    · have key : ∀ l : List En, (wkL (wkP ns e deep f (d + 1)) p l).length ≤ 2 * (vsL (wkL (wkP ns e deep f (d + 1)) p l)).length := by
        intro l
        induction l with
        | nil => exact Nat.zero_le _
        | cons x l ihl =>
          have h1 := ih (d + 1) (jnP p x.name) x.node.toNat
          rw [wkL, vsL_app, List.length_append, List.length_append]
          omega
      have h1 := key (lsP ns e deep n d)
      rw [← List.singleton_append, vsL_app, vsL_app, vsL_one, vsL_after]
      simp only [List.length_append, List.length_cons, List.length_nil]
      omega
    · rw [vsL_one]; simp
/-- a walk has few steps -/
theorem wk_len {now : Int} {ns : List Nd} (hc : checkP now ns = true) (e : Ev) (deep : Int) {f d : Nat} {p : ByteArray} {n : Nat} (h : In ns f n) : (wkP ns e deep f d p n).length ≤ 4098 := by
  have hh := hung_check hc
  have hr := (checkP_parts hc).2.2.2.1
  have h1 := wk_sum hh e deep (fun _ => 1) f d p n h
  have h2 := bels_le (ns := ns) e deep (fun _ => 1) (wkP ns e deep f d p n)
  have h3 := len_vs (ns := ns) e deep f d p n
  rw [wsum_one] at h1
  have h4 : wsum (below ns fun _ => 1) (vsL (wkP ns e deep f d p n)) ≤ namesP ns ns.length := by
    rw [names_sum ns ns.length (Nat.le_refl _)]
    unfold wsum
    rw [sum_count ns.length _ _ fun y hy => (vs_in hh h hy).2.1]
    refine sumTo_le _ _ _ fun i hi => ?_
    unfold below
    split
    · rename_i hk
      obtain ⟨s, hs⟩ := up_of hh hi hk
      have := wk_once hh hr e deep (d := d) (p := p) h hs hk
      rw [wsum_one]
      unfold tg
      rw [List.length_map]
      calc _ ≤ 1 * (nd ns i).list.length := Nat.mul_le_mul_right _ this
        _ = _ := Nat.one_mul _
    · simp
  have h5 : namesP ns ns.length ≤ 2048 := by
    unfold checkP limitsP at hc
    simp only [Bool.and_eq_true, decide_eq_true_eq] at hc
    omega
  omega
/-- where a walk may begin -/
theorem in_start {now : Int} {ns : List Nd} (hc : checkP now ns = true) {n : Nat} (h0 : 0 < n) (h1 : n < ns.length) (h2 : (nd ns n).kind ≠ 0) : In ns 34 n := by
  refine ⟨h1, h0, h2, by decide, fun hk => ?_⟩
  obtain ⟨s, hs⟩ := up_of (hung_check hc) h1 hk
  exact ⟨s, hs, by omega⟩
end Go.Proofs.Ytbajjbgeohbdjaa.Wk
