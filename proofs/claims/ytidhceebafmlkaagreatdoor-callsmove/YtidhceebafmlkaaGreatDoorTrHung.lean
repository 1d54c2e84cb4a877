import Derived.Test.YtidhceebafmlkaaGreatDoorPtStrW
namespace Go.Proofs.YtidhceebafmlkaaGreatDoor.Tr
open Go.RowKit Cu
theorem up_fun {ns : List Nd} {s x : Nat} (h : Up ns s x) : ∀ {s' : Nat}, Up ns s' x → s = s' := by
  induction h with
  | root =>
    intro s' h'
    cases h' with
    | root => rfl
    | step h1 => omega
  | step h1 h2 h3 h4 _ ih =>
    intro s' h'
    cases h' with
    | root => omega
    | step g1 g2 g3 g4 g5 =>
      rw [h4] at g4
      have e := Int.ofNat.inj g4
      subst e
      rw [ih g5]
inductive Dn (ns : List Nd) (x : Nat) : Nat → Nat → Prop
  | self : Dn ns x 0 x
  | step {k y p : Nat} : 1 < y → y < ns.length → (nd ns y).kind = 2 → (nd ns y).parent = (p : Int) → Dn ns x k p → Dn ns x (k + 1) y
theorem dn_up {ns : List Nd} {s x k y : Nat} (hu : Up ns s x) (h : Dn ns x k y) : Up ns (s + k) y := by
  induction h with
  | self => exact hu
  | step h1 h2 h3 h4 _ ih => exact Up.step h1 h2 h3 h4 ih
theorem dn_child {ns : List Nd} {x z k y : Nat} (h1 : 1 < z) (h2 : z < ns.length) (h3 : (nd ns z).kind = 2) (h4 : (nd ns z).parent = (x : Int)) (h : Dn ns z k y) : Dn ns x (k + 1) y := by
  induction h with
  | self => exact Dn.step h1 h2 h3 h4 Dn.self
  | step g1 g2 g3 g4 _ ih => exact Dn.step g1 g2 g3 g4 ih
theorem dn_fun {ns : List Nd} {a b k y : Nat} (h : Dn ns a k y) (h' : Dn ns b k y) : a = b := by
  induction h with
  | self => cases h'; rfl
  | step g1 g2 g3 g4 _ ih =>
    cases h' with
    | step f1 f2 f3 f4 f5 =>
      rw [g4] at f4
      have e := Int.ofNat.inj f4
      subst e
      exact ih f5
theorem goL_some (ns : List Nd) (vis : Nat → List Nat → Option (List Nat)) (dir s : Nat) (hup : Up ns s dir)
    (hv : ∀ z T, 1 < z → z < ns.length → (nd ns z).kind = 2 → (nd ns z).parent = (dir : Int) → (∀ y ∈ T, (nd ns y).kind = 2 → ∀ k, ¬ Dn ns z (k + 1) y) → ∃ T', vis z T = some T' ∧ ∀ y ∈ T', (nd ns y).kind = 2 → y ∈ T ∨ ∃ k, Dn ns z (k + 1) y) :
    ∀ (l : List En) (T : List Nat) (d : Nat), (∀ e ∈ l, okTo ns dir e) → (∀ x, (nd ns x).kind = 2 → (l.map fun e => e.node.toNat).count x ≤ 1) → (∀ y ∈ T, (nd ns y).kind = 2 → ∀ e ∈ l, (nd ns e.node.toNat).kind = 2 → ∀ k, ¬ Dn ns e.node.toNat k y) →
      ∃ T', goL ns vis dir l T d = some (T', d + dirsIn ns l) ∧ ∀ y ∈ T', (nd ns y).kind = 2 → y ∈ T ∨ ∃ k, Dn ns dir (k + 1) y := by
  intro l
  induction l with
  | nil => intro T d _ _ _; exact ⟨T, rfl, fun y hy _ => .inl hy⟩
  | cons e l ih =>
    intro T d ho hn hT
    obtain ⟨o1, o2, o3, o4⟩ := ho e (by simp)
    unfold goL
    rw [if_neg (by omega), if_neg o3]
    obtain ⟨z, hz⟩ : ∃ z, z = e.node.toNat := ⟨_, rfl⟩
    have z1 : 1 < z := by omega
    have z2 : z < ns.length := by omega
    rw [← hz] at o3 o4
    rw [← hz]
    by_cases hk : (nd ns z).kind = 2
    · have hp := o4 hk
      have huz : Up ns (s + 1) z := Up.step z1 z2 hk hp hup
      have hnT : z ∉ T := fun hm => hT z hm hk e (by simp) (by rw [← hz]; exact hk) 0 (by rw [← hz]; exact Dn.self)
      rw [if_pos hk, if_neg (by rw [List.count_cons_self, List.count_eq_zero.2 hnT, hp]; simp)]
      obtain ⟨T1, e1, g1⟩ := hv z (z :: T) z1 z2 hk hp (by
        intro y hy hky k hd
        rcases List.mem_cons.1 hy with rfl | hy
        · have := up_fun huz (dn_up huz hd); omega
        · exact hT y hy hky e (by simp) (by rw [← hz]; exact hk) (k + 1) (by rw [← hz]; exact hd))
      rw [e1]
      have hne : ∀ e' ∈ l, e'.node.toNat ≠ z := by
        intro e' he' heq
        have h1 := hn z hk
        rw [List.map_cons, ← hz, List.count_cons_self] at h1
        have h2 : 0 < (l.map fun e => e.node.toNat).count z := List.count_pos_iff.2 (List.mem_map.2 ⟨e', he', heq⟩)
        omega
      obtain ⟨T2, e2, g2⟩ := ih T1 (d + 1) (fun e' h' => ho e' (by simp [h'])) (fun x hx => by
        have := hn x hx
        rw [List.map_cons] at this
        exact Nat.le_trans (List.count_le_count_cons ..) this) (by
        intro y hy hky e' he' hke k hd
        obtain ⟨p1, p2, _, p4⟩ := ho e' (by simp [he'])
        have hue : Up ns (s + 1) e'.node.toNat := Up.step (by omega) (by omega) hke (p4 hke) hup
        rcases g1 y hy hky with hy | ⟨j, hj⟩
        · rcases List.mem_cons.1 hy with rfl | hy
          · have := up_fun huz (dn_up hue hd)
            obtain rfl : k = 0 := by omega
            exact hne e' he' (dn_fun hd Dn.self)
          · exact hT y hy hky e' (by simp [he']) hke k hd
        · have := up_fun (dn_up huz hj) (dn_up hue hd)
          obtain rfl : k = j + 1 := by omega
          exact hne e' he' (dn_fun hd hj))
      refine ⟨T2, ?_, ?_⟩
      · show goL ns vis dir l T1 (d + 1) = _
        rw [e2]
        unfold dirsIn
        rw [List.filter_cons, if_pos (by rw [← hz]; simp [hk]), List.length_cons]
        congr 2
        omega
      · intro y hy hky
        rcases g2 y hy hky with hy | h
        · rcases g1 y hy hky with hy | ⟨j, hj⟩
          · rcases List.mem_cons.1 hy with rfl | hy
            · exact .inr ⟨0, dn_child z1 z2 hk hp Dn.self⟩
            · exact .inl hy
          · exact .inr ⟨j + 1, dn_child z1 z2 hk hp hj⟩
        · exact .inr h
    · rw [if_neg hk]
      obtain ⟨T2, e2, g2⟩ := ih (z :: T) d (fun e' h' => ho e' (by simp [h'])) (fun x hx => by
        have := hn x hx
        rw [List.map_cons] at this
        exact Nat.le_trans (List.count_le_count_cons ..) this) (by
        intro y hy hky e' he' hke k hd
        rcases List.mem_cons.1 hy with rfl | hy
        · exact hk hky
        · exact hT y hy hky e' (by simp [he']) hke k hd)
      refine ⟨T2, ?_, ?_⟩
      · rw [e2]
        unfold dirsIn
        rw [List.filter_cons, if_neg (by rw [← hz]; simp [hk])]
      · intro y hy hky
        rcases g2 y hy hky with hy | h
        · rcases List.mem_cons.1 hy with rfl | hy
          · exact absurd hky hk
          · exact .inl hy
        · exact .inr h
theorem count_times {ns : List Nd} {d x : Nat} (hd : d < ns.length) (hk : (nd ns d).kind = 2) : (tg ns d).count x ≤ times ns x := by
  unfold times
  have h1 := sumTo_one ns.length d (fun y => (tg ns y).count x) hd
  rw [← h1]
  refine sumTo_le _ _ _ fun i _ => ?_
  by_cases e : i = d
  · rw [if_pos e, e, if_pos hk]; exact Nat.le_refl _
  · rw [if_neg e]; exact Nat.zero_le _
theorem times_root {ns : List Nd} (h : Hung ns) (x : Nat) (hx : x ≤ 1) : times ns x = 0 := by
  unfold times
  rw [sumTo_eq _ _ (fun _ => 0) (fun y hy => ?_), sumTo_zero]
  by_cases hk : (nd ns y).kind = 2
  · rw [if_pos hk]
    refine List.count_eq_zero.2 fun hm => ?_
    obtain ⟨e, he, hex⟩ := List.mem_map.1 hm
    have := ((h.good y hy hk).1.1 e he).1
    omega
  · rw [if_neg hk]
theorem visit_some {ns : List Nd} (h : Hung ns) : ∀ (f x s : Nat) (T : List Nat), s + f = 33 → 1 ≤ f → x < ns.length → (nd ns x).kind = 2 → Up ns s x → (∀ y ∈ T, (nd ns y).kind = 2 → ∀ k, ¬ Dn ns x (k + 1) y) →
    ∃ T', visitP ns f x T = some T' ∧ ∀ y ∈ T', (nd ns y).kind = 2 → y ∈ T ∨ ∃ k, Dn ns x (k + 1) y := by
  intro f
  induction f with
  | zero => intro x s T _ h1; omega
  | succ f ih =>
    intro x s T hs _ hx hk hu hT
    obtain ⟨⟨c1, c2⟩, _⟩ := h.good x hx hk
    obtain ⟨T', e1, g1⟩ := goL_some ns (visitP ns f) x s hu (fun z T z1 z2 z3 z4 hz => by
      obtain ⟨_, s', hs', hu'⟩ := h.good z z2 z3
      have := up_fun hu' (Up.step z1 z2 z3 z4 hu)
      exact ih z (s + 1) T (by omega) (by omega) z2 z3 (Up.step z1 z2 z3 z4 hu) hz) (nd ns x).list T 0 c1 (fun y hy => by
      have h1 := count_times (x := y) hx hk
      by_cases y2 : 2 ≤ y
      · by_cases yl : y < ns.length
        · have := h.once y y2 yl hy
          exact Nat.le_trans h1 (by omega)
        · have : (nd ns y).kind = 0 := by unfold nd; simp [List.getD, List.getElem?_eq_none (by omega : ns.length ≤ y)]
          rw [this] at hy
          exact absurd hy (by decide)
      · have := times_root h y (by omega)
        exact Nat.le_trans h1 (by omega)) (by
      intro y hy hky e he hke k hd
      obtain ⟨o1, o2, _, o4⟩ := c1 e he
      exact hT y hy hky k (dn_child (by omega) (by omega) hke (o4 hke) hd))
    refine ⟨T', ?_, g1⟩
    unfold visitP
    rw [e1]
    show (if (nd ns x).links = 2 + ((0 + dirsIn ns (nd ns x).list : Nat) : Int) then some T' else none) = some T'
    rw [if_pos (by rw [c2]; simp)]
theorem visit_count {ns : List Nd} {T : List Nat} (hT : visitP ns 33 1 [] = some T) (x : Nat) : T.count x = (sumTo ns.length fun y => T.count y * (if (nd ns y).kind = 2 then (tg ns y).count x else 0)) + (tg ns 1).count x := by
  have hi := visitP_in ns (fun x => 1 < x ∧ x < ns.length) (fun x a b _ => ⟨a, b⟩) 33 1 [] T (by simp) hT
  have hs := visitP_sum ns (fun z => if z = x then 1 else 0) 33 1 [] T hT
  rw [wsum_count, wsum_count, wsum_count, show wsum (below ns fun z => if z = x then 1 else 0) [] = 0 from rfl, List.count_nil] at hs
  have e1 : wsum (below ns fun z => if z = x then 1 else 0) T = sumTo ns.length fun y => T.count y * (if (nd ns y).kind = 2 then (tg ns y).count x else 0) := by
    unfold wsum
    rw [sum_count ns.length _ T fun y hy => (hi y hy).2]
    refine sumTo_eq _ _ _ fun y _ => ?_
    unfold below
    rw [wsum_count]
  omega
theorem visit_up {ns : List Nd} (h : Hung ns) {T : List Nat} (hT : visitP ns 33 1 [] = some T) {s x : Nat} (hu : Up ns s x) : x = 1 ∨ 1 ≤ T.count x := by
  induction hu with
  | root => exact .inl rfl
  | @step s x p h1 h2 h3 h4 hp ih =>
    refine .inr ?_
    have ht := h.once x (by omega) h2 h3
    have hd : ∃ d, d < ns.length ∧ (nd ns d).kind = 2 ∧ 1 ≤ (tg ns d).count x := by
      refine Decidable.byContradiction fun hc => ?_
      have : times ns x = 0 := by
        unfold times
        rw [sumTo_eq _ _ (fun _ => 0) (fun y hy => ?_), sumTo_zero]
        by_cases hk : (nd ns y).kind = 2
        · rw [if_pos hk]
          exact Decidable.byContradiction fun hn => hc ⟨y, hy, hk, by omega⟩
        · rw [if_neg hk]
      omega
    obtain ⟨d, d1, d2, d3⟩ := hd
    obtain ⟨e, he, hex⟩ := List.mem_map.1 (List.count_pos_iff.1 d3)
    have ho := (h.good d d1 d2).1.1 e he
    have hpar := ho.2.2.2 (by rw [hex]; exact h3)
    rw [hex, h4] at hpar
    have edp : p = d := Int.ofNat.inj hpar
    subst edp
    have hc := visit_count hT x
    rcases ih with rfl | hT1
    · omega
    · have h5 : T.count p * (tg ns p).count x ≤ sumTo ns.length fun y => T.count y * (if (nd ns y).kind = 2 then (tg ns y).count x else 0) := by
        have h6 := sumTo_one ns.length p (fun y => T.count y * (tg ns y).count x) d1
        rw [← h6]
        refine sumTo_le _ _ _ fun i _ => ?_
        by_cases e : i = p
        · rw [if_pos e, e, if_pos d2]; exact Nat.le_refl _
        · rw [if_neg e]; exact Nat.zero_le _
      have h7 : 1 * 1 ≤ T.count p * (tg ns p).count x := Nat.mul_le_mul hT1 d3
      omega
theorem hangs_of {ns : List Nd} (h1 : 1 < ns.length) (hk : (nd ns 1).kind = 2) (h : Hung ns) : hangsP ns = true := by
  obtain ⟨T, hT, _⟩ := visit_some h 33 1 0 [] rfl (by omega) h1 hk Up.root (by simp)
  have ho := visitP_once ns 33 1 [] T (once_nil ns) hT
  have hi := visitP_in ns (fun x => 1 < x ∧ x < ns.length) (fun x a b _ => ⟨a, b⟩) 33 1 [] T (by simp) hT
  have hc1 : T.count 1 = 0 := List.count_eq_zero.2 fun hm => by have := (hi 1 hm).1; omega
  have ht : ∀ x, T.count x = times ns x := by
    intro x
    rw [visit_count hT x]
    have e2 : times ns x = sumTo ns.length (fun y => T.count y * (if (nd ns y).kind = 2 then (tg ns y).count x else 0) + if y = 1 then (tg ns y).count x else 0) := by
      unfold times
      refine sumTo_eq _ _ _ fun y hy => ?_
      by_cases hk2 : (nd ns y).kind = 2
      · rw [if_pos hk2]
        by_cases ey : y = 1
        · subst ey; rw [if_pos rfl, hc1]; omega
        · have a1 := ho y hk2
          obtain ⟨_, s, _, hu⟩ := h.good y hy hk2
          have a2 : 1 ≤ T.count y := by
            rcases visit_up h hT hu with e | e
            · exact absurd e ey
            · exact e
          rw [show T.count y = 1 by omega, if_neg ey]; omega
      · rw [if_neg hk2, if_neg (fun e => hk2 (by rw [e]; exact hk))]; omega
    rw [e2, sumTo_add, sumTo_one ns.length 1 (fun y => (tg ns y).count x) h1]
  unfold hangsP
  rw [hT]
  show listedP ns T = true
  unfold listedP
  refine allTo_true.2 fun i hi2 => ?_
  unfold listedOk oneListed
  simp only [Bool.or_eq_true, Bool.and_eq_true, Bool.not_eq_true', decide_eq_true_eq, decide_eq_false_iff_not]
  by_cases hz : (nd ns (i + 2)).kind = 0
  · exact .inl hz
  · refine .inr ⟨?_, ?_⟩
    · rw [ht]
      have := h.listed (i + 2) (by omega) (by omega) hz
      omega
    · by_cases h2 : (nd ns (i + 2)).kind = 2
      · exact .inl h2
      · refine .inr ?_
        rw [ht]
        exact h.links (i + 2) (by omega) (by omega) hz h2
theorem checkP_of {now : Int} {ns : List Nd} (t : timeP now = true) (r : rootP ns = true) (l : limitsP ns = true) (k : nodesP ns = true) (h : Hung ns) : checkP now ns = true := by
  unfold checkP
  have r' := r
  unfold rootP at r'
  simp only [Bool.and_eq_true, decide_eq_true_eq] at r'
  obtain ⟨⟨⟨⟨⟨a, b⟩, c⟩, d⟩, e⟩, f⟩ := r'
  rw [t, r, l, k, hangs_of (by omega) d h]
  rfl
structure Shape (ns ms : List Nd) : Prop where
  len : ms.length = ns.length
  kind : ∀ i, (nd ms i).kind = (nd ns i).kind
  list : ∀ i, (nd ms i).list = (nd ns i).list
  links : ∀ i, (nd ms i).links = (nd ns i).links
  parent : ∀ i, (nd ms i).parent = (nd ns i).parent
theorem sumTo_change (N d : Nat) (g h : Nat → Nat) (hd : d < N) (e : ∀ y, y < N → y ≠ d → g y = h y) : sumTo N g + h d = sumTo N h + g d := by
  have h1 : sumTo N (fun y => g y + if y = d then h y else 0) = sumTo N (fun y => h y + if y = d then g y else 0) := by
    refine sumTo_eq _ _ _ fun y hy => ?_
    by_cases ey : y = d
    · rw [if_pos ey, if_pos ey]; omega
    · rw [if_neg ey, if_neg ey, e y hy ey]
  rw [sumTo_add, sumTo_add, sumTo_one N d h hd, sumTo_one N d g hd] at h1
  exact h1
def wt (ns : List Nd) (x y : Nat) : Nat := if (nd ns y).kind = 2 then (tg ns y).count x else 0
theorem nd_out' (ns : List Nd) (y : Nat) (h : ns.length ≤ y) : nd ns y = nz := by
  unfold nd
  rw [List.getD, List.getElem?_eq_none h]
  rfl
theorem wt_out (ns : List Nd) (x y : Nat) (h : ns.length ≤ y) : wt ns x y = 0 := by
  unfold wt
  rw [nd_out' ns y h, if_neg (by decide)]
theorem times_ge (ns : List Nd) (x : Nat) : ∀ N, ns.length ≤ N → times ns x = sumTo N (wt ns x) := by
  intro N hN
  obtain ⟨k, rfl⟩ : ∃ k, N = ns.length + k := ⟨N - ns.length, by omega⟩
  clear hN
  induction k with
  | zero => rfl
  | succ k ih => rw [← Nat.add_assoc, sumTo_succ, ← ih, wt_out ns x _ (by omega)]; rfl
theorem times_change {ns ms : List Nd} {x d : Nat} (h : ∀ y, y ≠ d → wt ms x y = wt ns x y) : times ms x + wt ns x d = times ns x + wt ms x d := by
  obtain ⟨N, h1, h2, h3⟩ : ∃ N, ns.length ≤ N ∧ ms.length ≤ N ∧ d < N := ⟨ns.length + ms.length + d + 1, by omega, by omega, by omega⟩
  rw [times_ge ns x N h1, times_ge ms x N h2]
  exact sumTo_change N d _ _ h3 fun y _ hy => h y hy
theorem up_keep {ns ms : List Nd} {s x : Nat} (hu : Up ns s x) (h : ∀ y, 1 < y → y < ns.length → (nd ns y).kind = 2 → y < ms.length ∧ (nd ms y).kind = 2 ∧ (nd ms y).parent = (nd ns y).parent) : Up ms s x := by
  induction hu with
  | root => exact Up.root
  | step h1 h2 h3 h4 _ ih =>
    obtain ⟨a, b, c⟩ := h _ h1 h2 h3
    exact Up.step h1 a b (c.trans h4) ih
structure PutF (ns ms : List Nd) (d n : Nat) : Prop where
  len : ns.length ≤ ms.length
  dl : d < ns.length
  dk : (nd ns d).kind = 2
  dk' : (nd ms d).kind = 2
  dp : (nd ms d).parent = (nd ns d).parent
  dn : (nd ms d).links = (nd ns d).links
  nl : 1 < n
  nl' : n < ms.length
  nk : (nd ns n).kind ≠ 2
  nk0 : (nd ms n).kind ≠ 0
  nk2 : (nd ms n).kind ≠ 2
  links : (nd ms n).links = (times ns n : Int) + 1
  rest : ∀ i, i ≠ d → i ≠ n → (nd ms i).kind = (nd ns i).kind ∧ (nd ms i).list = (nd ns i).list ∧ (nd ms i).links = (nd ns i).links ∧ (nd ms i).parent = (nd ns i).parent
  perm : ∃ e : En, e.node = (n : Int) ∧ (nd ms d).list.Perm (e :: (nd ns d).list)
theorem PutF.dir {ns ms : List Nd} {d n : Nat} (h : PutF ns ms d n) (i : Nat) : (nd ms i).kind = 2 ↔ (nd ns i).kind = 2 := by
  by_cases e1 : i = n
  · subst e1; exact ⟨fun k => absurd k h.nk2, fun k => absurd k h.nk⟩
  · by_cases e2 : i = d
    · subst e2; exact ⟨fun _ => h.dk, fun _ => h.dk'⟩
    · rw [(h.rest i e2 e1).1]
theorem PutF.par {ns ms : List Nd} {d n : Nat} (h : PutF ns ms d n) (i : Nat) (hk : (nd ns i).kind = 2) : (nd ms i).parent = (nd ns i).parent := by
  by_cases e1 : i = n
  · subst e1; exact absurd hk h.nk
  · by_cases e2 : i = d
    · subst e2; exact h.dp
    · exact (h.rest i e2 e1).2.2.2
theorem PutF.ok {ns ms : List Nd} {d n : Nat} (h : PutF ns ms d n) {c : Nat} {e : En} (ho : okTo ns c e) : okTo ms c e := by
  obtain ⟨o1, o2, o3, o4⟩ := ho
  have hl := h.len
  refine ⟨o1, by omega, ?_, fun k => ?_⟩
  · by_cases e1 : e.node.toNat = n
    · rw [e1]; exact h.nk0
    · by_cases e2 : e.node.toNat = d
      · rw [e2, h.dk']; decide
      · rw [(h.rest _ e2 e1).1]; exact o3
  · have k' := (h.dir _).1 k
    rw [h.par _ k']; exact o4 k'
theorem PutF.dirs {ns ms : List Nd} {d n : Nat} (h : PutF ns ms d n) (l : List En) : dirsIn ms l = dirsIn ns l := by
  unfold dirsIn
  simp only [h.dir]
theorem PutF.times {ns ms : List Nd} {d n : Nat} (h : PutF ns ms d n) (x : Nat) : times ms x = times ns x + if x = n then 1 else 0 := by
  have hc := times_change (ns := ns) (ms := ms) (x := x) (d := d) fun y hy => by
    unfold wt
    by_cases e1 : y = n
    · subst e1; rw [if_neg h.nk2, if_neg h.nk]
    · obtain ⟨a, b, _⟩ := h.rest y hy e1
      unfold tg
      rw [a, b]
  obtain ⟨e, he, hp⟩ := h.perm
  have h1 : wt ns x d = (tg ns d).count x := by unfold wt; rw [if_pos h.dk]
  have h2 : wt ms x d = (tg ns d).count x + if x = n then 1 else 0 := by
    unfold wt
    rw [if_pos h.dk']
    have hp' : (tg ms d).Perm (n :: tg ns d) := by
      have := hp.map fun e : En => e.node.toNat
      rw [List.map_cons, he] at this
      exact this
    rw [hp'.count_eq x]
    by_cases ex : x = n
    · subst ex; rw [List.count_cons_self, if_pos rfl]
    · rw [List.count_cons_of_ne (Ne.symm ex), if_neg ex]; rfl
  omega
theorem PutF.hung {ns ms : List Nd} {d n : Nat} (h : PutF ns ms d n) (g : Hung ns) : Hung ms := by
  have old : ∀ c, (nd ms c).kind = 2 → c < ns.length := fun c hk => by
    refine Decidable.byContradiction fun hc => ?_
    have := (h.dir c).1 hk
    rw [nd_out' ns c (by omega)] at this
    exact absurd this (by decide)
  refine ⟨fun c hc hk => ?_, fun x a b c => ?_, fun x a b c => ?_, fun x a b c e => ?_⟩
  · have hc' := old c hk
    have hk' := (h.dir c).1 hk
    obtain ⟨⟨c1, c2⟩, s, hs, hu⟩ := g.good c hc' hk'
    refine ⟨?_, s, hs, up_keep hu fun y h1 h2 h3 => ⟨Nat.lt_of_lt_of_le h2 h.len, (h.dir y).2 h3, h.par y h3⟩⟩
    by_cases ed : c = d
    · subst ed
      obtain ⟨e, he, hp⟩ := h.perm
      refine ⟨fun e' h' => ?_, ?_⟩
      · rcases List.mem_cons.1 (hp.mem_iff.1 h') with rfl | h'
        · have := h.nl
          have := h.nl'
          exact ⟨by omega, by omega, by rw [he]; exact h.nk0, fun k => absurd (by rw [he] at k; exact k) h.nk2⟩
        · exact h.ok (c1 e' h')
      · rw [h.dn, c2, h.dirs]
        unfold dirsIn
        rw [(hp.filter _).length_eq, List.filter_cons, if_neg]
        rw [he]
        simp only [decide_eq_true_eq]
        exact h.nk
    · have en : c ≠ n := fun e => h.nk2 (e ▸ hk)
      obtain ⟨_, r2, r3, _⟩ := h.rest c ed en
      refine ⟨fun e he => h.ok (c1 e (by rw [← r2]; exact he)), ?_⟩
      rw [r3, r2, h.dirs]; exact c2
  · rw [h.times]
    by_cases ex : x = n
    · rw [if_pos ex]; omega
    · rw [if_neg ex]
      by_cases ed : x = d
      · subst ed; have := g.listed x a h.dl (by rw [h.dk]; decide); omega
      · have hk := (h.rest x ed ex).1
        rw [hk] at c
        have hx : x < ns.length := Decidable.byContradiction fun hc => c (by rw [nd_out' ns x (by omega)])
        have := g.listed x a hx c
        omega
  · have en : x ≠ n := fun e => h.nk2 (by rw [← e]; exact c)
    rw [h.times, if_neg en]
    exact g.once x a (old x c) ((h.dir x).1 c)
  · rw [h.times]
    by_cases ex : x = n
    · subst ex; rw [if_pos rfl, h.links]; omega
    · rw [if_neg ex]
      have ed : x ≠ d := fun ed => e (by rw [ed]; exact h.dk')
      obtain ⟨hk, _, r3, _⟩ := h.rest x ed ex
      rw [hk] at c e
      have hx : x < ns.length := Decidable.byContradiction fun hc => c (by rw [nd_out' ns x (by omega)])
      rw [r3]
      exact g.links x a hx c e
structure PutD (ns ms : List Nd) (d n : Nat) : Prop where
  len : ns.length ≤ ms.length
  dl : d < ns.length
  dk : (nd ns d).kind = 2
  dk' : (nd ms d).kind = 2
  dp : (nd ms d).parent = (nd ns d).parent
  dn : (nd ms d).links = (nd ns d).links + 1
  up : ∃ s, s ≤ 31 ∧ Up ns s d
  nl : 1 < n
  nl' : n < ms.length
  nk : (nd ns n).kind = 0
  nk2 : (nd ms n).kind = 2
  nt : (nd ms n).list = []
  np : (nd ms n).parent = (d : Int)
  nn : (nd ms n).links = 2
  rest : ∀ i, i ≠ d → i ≠ n → (nd ms i).kind = (nd ns i).kind ∧ (nd ms i).list = (nd ns i).list ∧ (nd ms i).links = (nd ns i).links ∧ (nd ms i).parent = (nd ns i).parent
  perm : ∃ e : En, e.node = (n : Int) ∧ (nd ms d).list.Perm (e :: (nd ns d).list)
theorem in_of {ns : List Nd} (c : Nat) (hk : (nd ns c).kind ≠ 0) : c < ns.length := Decidable.byContradiction fun hc => hk (by rw [nd_out' ns c (by omega)])
theorem named {ns : List Nd} {c : Nat} {e : En} (hk : (nd ns c).kind = 2) (he : e ∈ (nd ns c).list) : 1 ≤ times ns e.node.toNat := by
  have h1 := count_times (x := e.node.toNat) (in_of c (by rw [hk]; decide)) hk
  have h2 : 0 < (tg ns c).count e.node.toNat := List.count_pos_iff.2 (List.mem_map.2 ⟨e, he, rfl⟩)
  omega
theorem dir_named {ns : List Nd} (g : Hung ns) {x p : Nat} (h1 : 1 < x) (hk : (nd ns x).kind = 2) (hp : (nd ns x).parent = (p : Int)) : 1 ≤ (tg ns p).count x := by
  have hx := in_of x (by rw [hk]; decide)
  have ht := g.once x (by omega) hx hk
  refine Decidable.byContradiction fun hc => ?_
  have : times ns x = 0 := by
    unfold times
    rw [sumTo_eq _ _ (fun _ => 0) (fun y hy => ?_), sumTo_zero]
    by_cases hky : (nd ns y).kind = 2
    · rw [if_pos hky]
      refine Decidable.byContradiction fun hn => ?_
      obtain ⟨e, he, hex⟩ := List.mem_map.1 (List.count_pos_iff.1 (by omega : 0 < (tg ns y).count x))
      have ho := ((g.good y hy hky).1.1 e he).2.2.2 (by rw [hex]; exact hk)
      rw [hex, hp] at ho
      have e1 : p = y := Int.ofNat.inj ho
      subst e1
      exact hc (by omega)
    · rw [if_neg hky]
  omega
theorem Perm_count {l l' : List En} {e : En} {n : Nat} (he : e.node = (n : Int)) (hp : l.Perm (e :: l')) (x : Nat) : (l.map fun e => e.node.toNat).count x = (l'.map fun e => e.node.toNat).count x + if x = n then 1 else 0 := by
  have hp' : (l.map fun e => e.node.toNat).Perm (n :: l'.map fun e => e.node.toNat) := by
    have := hp.map fun e : En => e.node.toNat
    rw [List.map_cons, he] at this
    exact this
  rw [hp'.count_eq x]
  by_cases ex : x = n
  · subst ex; rw [List.count_cons_self, if_pos rfl]
  · rw [List.count_cons_of_ne (Ne.symm ex), if_neg ex]; rfl
structure DropF (ns ms : List Nd) (d n : Nat) : Prop where
  dk : (nd ns d).kind = 2
  dk' : (nd ms d).kind = 2
  dp : (nd ms d).parent = (nd ns d).parent
  dn : (nd ms d).links = (nd ns d).links
  nk : (nd ns n).kind ≠ 2
  nk2 : (nd ms n).kind ≠ 2
  left : (nd ms n).kind = 0 ∧ times ns n = 1 ∨ (nd ms n).kind ≠ 0 ∧ 2 ≤ times ns n ∧ (nd ms n).links + 1 = (times ns n : Int)
  rest : ∀ i, i ≠ d → i ≠ n → (nd ms i).kind = (nd ns i).kind ∧ (nd ms i).list = (nd ns i).list ∧ (nd ms i).links = (nd ns i).links ∧ (nd ms i).parent = (nd ns i).parent
  perm : ∃ e : En, e.node = (n : Int) ∧ (nd ns d).list.Perm (e :: (nd ms d).list)
theorem DropF.dir {ns ms : List Nd} {d n : Nat} (h : DropF ns ms d n) (i : Nat) : (nd ms i).kind = 2 ↔ (nd ns i).kind = 2 := by
  by_cases e1 : i = n
  · subst e1; exact ⟨fun k => absurd k h.nk2, fun k => absurd k h.nk⟩
  · by_cases e2 : i = d
    · subst e2; exact ⟨fun _ => h.dk, fun _ => h.dk'⟩
    · rw [(h.rest i e2 e1).1]
theorem DropF.par {ns ms : List Nd} {d n : Nat} (h : DropF ns ms d n) (i : Nat) (hk : (nd ns i).kind = 2) : (nd ms i).parent = (nd ns i).parent := by
  by_cases e1 : i = n
  · subst e1; exact absurd hk h.nk
  · by_cases e2 : i = d
    · subst e2; exact h.dp
    · exact (h.rest i e2 e1).2.2.2
theorem DropF.dirs {ns ms : List Nd} {d n : Nat} (h : DropF ns ms d n) (l : List En) : dirsIn ms l = dirsIn ns l := by
  unfold dirsIn
  simp only [h.dir]
theorem DropF.times {ns ms : List Nd} {d n : Nat} (h : DropF ns ms d n) (x : Nat) : (times ms x + if x = n then 1 else 0) = times ns x := by
  have hc := times_change (ns := ns) (ms := ms) (x := x) (d := d) fun y hy => by
    unfold wt
    by_cases e1 : y = n
    · subst e1; rw [if_neg h.nk2, if_neg h.nk]
    · obtain ⟨a, b, _⟩ := h.rest y hy e1
      unfold tg
      rw [a, b]
  obtain ⟨e, he, hp⟩ := h.perm
  have h1 : wt ns x d = (tg ns d).count x := by unfold wt; rw [if_pos h.dk]
  have h2 : wt ms x d = (tg ms d).count x := by unfold wt; rw [if_pos h.dk']
  have h3 : (tg ns d).count x = (tg ms d).count x + if x = n then 1 else 0 := Perm_count he hp x
  omega
theorem DropF.hung {ns ms : List Nd} {d n : Nat} (h : DropF ns ms d n) (g : Hung ns) : Hung ms := by
  have ok : ∀ {c : Nat} {e : En}, (nd ms c).kind = 2 → e ∈ (nd ms c).list → okTo ns c e → okTo ms c e := fun {c e} hk he ho => by
    obtain ⟨o1, o2, o3, o4⟩ := ho
    have hz : (nd ms e.node.toNat).kind ≠ 0 := by
      by_cases e1 : e.node.toNat = n
      · rcases h.left with ⟨_, l2⟩ | ⟨l1, _⟩
        · have a1 := named hk he
          have a2 := h.times n
          rw [e1] at a1
          rw [if_pos rfl] at a2
          omega
        · rw [e1]; exact l1
      · by_cases e2 : e.node.toNat = d
        · rw [e2, h.dk']; decide
        · rw [(h.rest _ e2 e1).1]; exact o3
    have := in_of _ hz
    exact ⟨o1, by omega, hz, fun k => by
      have k' := (h.dir _).1 k
      rw [h.par _ k']; exact o4 k'⟩
  refine ⟨fun c hc hk => ?_, fun x a b c => ?_, fun x a b c => ?_, fun x a b c e => ?_⟩
  · have hk' := (h.dir c).1 hk
    obtain ⟨⟨c1, c2⟩, s, hs, hu⟩ := g.good c (in_of c (by rw [hk']; decide)) hk'
    refine ⟨?_, s, hs, up_keep hu fun y h1 h2 h3 => ⟨in_of y (by rw [(h.dir y).2 h3]; decide), (h.dir y).2 h3, h.par y h3⟩⟩
    by_cases ed : c = d
    · subst ed
      obtain ⟨e, he, hp⟩ := h.perm
      refine ⟨fun e' h' => ok hk h' (c1 e' (hp.mem_iff.2 (List.mem_cons_of_mem _ h'))), ?_⟩
      have e1 : dirsIn ns (nd ns c).list = dirsIn ns (e :: (nd ms c).list) := (hp.filter _).length_eq
      have e2 : dirsIn ns (e :: (nd ms c).list) = dirsIn ns (nd ms c).list := by
        unfold dirsIn
        rw [List.filter_cons, if_neg]
        rw [he]
        simp only [decide_eq_true_eq]
        exact h.nk
      rw [h.dn, c2, e1, e2, h.dirs]
    · have en : c ≠ n := fun e => h.nk2 (e ▸ hk)
      obtain ⟨_, r2, r3, _⟩ := h.rest c ed en
      refine ⟨fun e he => ok hk he (c1 e (by rw [← r2]; exact he)), ?_⟩
      rw [r3, r2, h.dirs]; exact c2
  · have ht := h.times x
    by_cases ex : x = n
    · rw [if_pos ex] at ht
      rcases h.left with ⟨l1, _⟩ | ⟨_, l2, _⟩
      · exact absurd l1 (by rw [← ex]; exact c)
      · rw [← ex] at l2; omega
    · rw [if_neg ex] at ht
      by_cases ed : x = d
      · have := g.listed x a (in_of x (by rw [ed, h.dk]; decide)) (by rw [ed, h.dk]; decide); omega
      · rw [(h.rest x ed ex).1] at c
        have := g.listed x a (in_of x c) c
        omega
  · have ht := h.times x
    have en : x ≠ n := fun e => h.nk2 (by rw [← e]; exact c)
    rw [if_neg en] at ht
    have hk' := (h.dir x).1 c
    have := g.once x a (in_of x (by rw [hk']; decide)) hk'
    omega
  · have ht := h.times x
    by_cases ex : x = n
    · rw [if_pos ex] at ht
      rcases h.left with ⟨l1, _⟩ | ⟨_, _, l3⟩
      · exact absurd l1 (by rw [← ex]; exact c)
      · rw [← ex] at l3; omega
    · rw [if_neg ex] at ht
      have ed : x ≠ d := fun ed => e (by rw [ed]; exact h.dk')
      obtain ⟨hk, _, r3, _⟩ := h.rest x ed ex
      rw [hk] at c e
      have := g.links x a (in_of x c) c e
      rw [r3, this]
      omega
structure DropD (ns ms : List Nd) (d n : Nat) : Prop where
  dk : (nd ns d).kind = 2
  dk' : (nd ms d).kind = 2
  dp : (nd ms d).parent = (nd ns d).parent
  dn : (nd ms d).links + 1 = (nd ns d).links
  ne : d ≠ n
  n1 : 1 < n
  nk : (nd ns n).kind = 2
  nt : (nd ns n).list = []
  nk0 : (nd ms n).kind = 0
  rest : ∀ i, i ≠ d → i ≠ n → (nd ms i).kind = (nd ns i).kind ∧ (nd ms i).list = (nd ns i).list ∧ (nd ms i).links = (nd ns i).links ∧ (nd ms i).parent = (nd ns i).parent
  perm : ∃ e : En, e.node = (n : Int) ∧ (nd ns d).list.Perm (e :: (nd ms d).list)
theorem DropD.dir {ns ms : List Nd} {d n : Nat} (h : DropD ns ms d n) (i : Nat) (hi : i ≠ n) : (nd ms i).kind = 2 ↔ (nd ns i).kind = 2 := by
  by_cases e2 : i = d
  · subst e2; exact ⟨fun _ => h.dk, fun _ => h.dk'⟩
  · rw [(h.rest i e2 hi).1]
theorem DropD.ndir {ns ms : List Nd} {d n : Nat} (h : DropD ns ms d n) {i : Nat} (hk : (nd ms i).kind = 2) : i ≠ n := fun e => by
  rw [e, h.nk0] at hk
  exact absurd hk (by decide)
theorem DropD.par {ns ms : List Nd} {d n : Nat} (h : DropD ns ms d n) (i : Nat) (hi : i ≠ n) : (nd ms i).parent = (nd ns i).parent := by
  by_cases e2 : i = d
  · subst e2; exact h.dp
  · exact (h.rest i e2 hi).2.2.2
theorem DropD.dirs {ns ms : List Nd} {d n : Nat} (h : DropD ns ms d n) (l : List En) (hl : ∀ e ∈ l, e.node.toNat ≠ n) : dirsIn ms l = dirsIn ns l := by
  unfold dirsIn
  rw [List.filter_congr fun e he => ?_]
  simp only [h.dir _ (hl e he)]
theorem DropD.times {ns ms : List Nd} {d n : Nat} (h : DropD ns ms d n) (x : Nat) : (times ms x + if x = n then 1 else 0) = times ns x := by
  have hc := times_change (ns := ns) (ms := ms) (x := x) (d := d) fun y hy => by
    unfold wt
    by_cases e1 : y = n
    · subst e1
      unfold tg
      rw [h.nt, h.nk0]
      simp
    · obtain ⟨a, b, _⟩ := h.rest y hy e1
      unfold tg
      rw [a, b]
  obtain ⟨e, he, hp⟩ := h.perm
  have h1 : wt ns x d = (tg ns d).count x := by unfold wt; rw [if_pos h.dk]
  have h2 : wt ms x d = (tg ms d).count x := by unfold wt; rw [if_pos h.dk']
  have h3 : (tg ns d).count x = (tg ms d).count x + if x = n then 1 else 0 := Perm_count he hp x
  omega
theorem DropD.up {ns ms : List Nd} {d n : Nat} (h : DropD ns ms d n) (g : Hung ns) {s x : Nat} (hu : Up ns s x) : x ≠ n → Up ms s x := by
  induction hu with
  | root => intro _; exact Up.root
  | step h1 h2 h3 h4 _ ih =>
    intro hx
    have k := (h.dir _ hx).2 h3
    refine Up.step h1 (in_of _ (by rw [k]; decide)) k ((h.par _ hx).trans h4) (ih fun ep => ?_)
    have := dir_named g h1 h3 h4
    unfold tg at this
    rw [ep, h.nt] at this
    simp at this
theorem DropD.hung {ns ms : List Nd} {d n : Nat} (h : DropD ns ms d n) (g : Hung ns) : Hung ms := by
  have hn0 : Tr.times ms n = 0 := by
    have a1 := h.times n
    have := h.n1
    have a2 := g.once n (by omega) (in_of n (by rw [h.nk]; decide)) h.nk
    rw [if_pos rfl] at a1
    omega
  have nn : ∀ {c : Nat} {e : En}, (nd ms c).kind = 2 → e ∈ (nd ms c).list → e.node.toNat ≠ n := fun {c e} hk he e1 => by
    have := named hk he
    rw [e1] at this
    omega
  have ok : ∀ {c : Nat} {e : En}, (nd ms c).kind = 2 → e ∈ (nd ms c).list → okTo ns c e → okTo ms c e := fun {c e} hk he ho => by
    have e1 := nn hk he
    obtain ⟨o1, o2, o3, o4⟩ := ho
    have hz : (nd ms e.node.toNat).kind ≠ 0 := by
      by_cases e2 : e.node.toNat = d
      · rw [e2, h.dk']; decide
      · rw [(h.rest _ e2 e1).1]; exact o3
    have := in_of _ hz
    exact ⟨o1, by omega, hz, fun k => by rw [h.par _ e1]; exact o4 ((h.dir _ e1).1 k)⟩
  refine ⟨fun c hc hk => ?_, fun x a b c => ?_, fun x a b c => ?_, fun x a b c e => ?_⟩
  · have en := h.ndir hk
    have hk' := (h.dir c en).1 hk
    obtain ⟨⟨c1, c2⟩, s, hs, hu⟩ := g.good c (in_of c (by rw [hk']; decide)) hk'
    refine ⟨?_, s, hs, h.up g hu en⟩
    by_cases ed : c = d
    · subst ed
      obtain ⟨e, he, hp⟩ := h.perm
      refine ⟨fun e' h' => ok hk h' (c1 e' (hp.mem_iff.2 (List.mem_cons_of_mem _ h'))), ?_⟩
      have e1 : dirsIn ns (nd ns c).list = dirsIn ns (e :: (nd ms c).list) := (hp.filter _).length_eq
      have e2 : dirsIn ns (e :: (nd ms c).list) = dirsIn ns (nd ms c).list + 1 := by
        unfold dirsIn
        rw [List.filter_cons, if_pos, List.length_cons]
        rw [he]
        simp only [decide_eq_true_eq]
        exact h.nk
      have := h.dn
      rw [c2, e1, e2] at this
      rw [h.dirs _ fun e' he' => nn hk he']
      omega
    · obtain ⟨_, r2, r3, _⟩ := h.rest c ed en
      refine ⟨fun e he => ok hk he (c1 e (by rw [← r2]; exact he)), ?_⟩
      rw [r3, h.dirs _ fun e' he' => nn hk he', r2]; exact c2
  · have ht := h.times x
    have ex : x ≠ n := fun ex => c (by rw [ex]; exact h.nk0)
    rw [if_neg ex] at ht
    by_cases ed : x = d
    · have := g.listed x a (in_of x (by rw [ed, h.dk]; decide)) (by rw [ed, h.dk]; decide); omega
    · rw [(h.rest x ed ex).1] at c
      have := g.listed x a (in_of x c) c
      omega
  · have ht := h.times x
    have ex := h.ndir c
    rw [if_neg ex] at ht
    have hk' := (h.dir x ex).1 c
    have := g.once x a (in_of x (by rw [hk']; decide)) hk'
    omega
  · have ht := h.times x
    have ex : x ≠ n := fun ex => c (by rw [ex]; exact h.nk0)
    rw [if_neg ex] at ht
    have ed : x ≠ d := fun ed => e (by rw [ed]; exact h.dk')
    obtain ⟨hk, _, r3, _⟩ := h.rest x ed ex
    rw [hk] at c e
    have := g.links x a (in_of x c) c e
    rw [r3, this]
    omega
end Go.Proofs.YtidhceebafmlkaaGreatDoor.Tr
