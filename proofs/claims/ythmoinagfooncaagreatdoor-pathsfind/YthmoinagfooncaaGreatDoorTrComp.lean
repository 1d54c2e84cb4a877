/- The other way round: lists that hang together are walked to their end. -/
import Derived.Test.YthmoinagfooncaaGreatDoorTrSound
namespace Go.Proofs.YthmoinagfooncaaGreatDoor.Tr
open Go.RowKit Go.Proofs.YthmoinagfooncaaGreatDoor.Cu

/-- y lies k steps below x -/
inductive Be (ns : List Nd) (x : Nat) : Nat → Nat → Prop
  | here : Be ns x 0 x
  | step {k y p : Nat} : 1 < y → y < ns.length → (nd ns y).kind = 2 → (nd ns y).parent = (p : Int) → Be ns x k p → Be ns x (k + 1) y
theorem up_one {ns : List Nd} : ∀ {s t x : Nat}, Up ns s x → Up ns t x → s = t := by
  intro s t x h
  induction h generalizing t with
  | root =>
    intro h2
    cases h2 with
    | root => rfl
    | step a _ _ _ _ => omega
  | step a b c d h ih =>
    intro h2
    cases h2 with
    | root => omega
    | step a' b' c' d' h' =>
      rw [d] at d'
      have := Int.ofNat.inj d'
      subst this
      rw [ih h']
theorem be_up {ns : List Nd} {x s : Nat} (hu : Up ns s x) : ∀ {k y : Nat}, Be ns x k y → Up ns (s + k) y := by
  intro k y h
  induction h with
  | here => exact hu
  | step a b c d _ ih => exact Up.step a b c d ih
theorem be_self {ns : List Nd} {x s k : Nat} (hu : Up ns s x) (h : Be ns x k x) : k = 0 := by
  have := up_one hu (be_up hu h)
  omega
/-- two that lie as deep and have the same one below them are one -/
theorem be_same {ns : List Nd} {a b s : Nat} (ha : Up ns s a) (hb : Up ns s b) : ∀ {k j y : Nat}, Be ns a k y → Be ns b j y → a = b := by
  intro k j y h h2
  have e : k = j := by have := up_one (be_up ha h) (be_up hb h2); omega
  subst e
  induction h with
  | here => cases h2; rfl
  | step _ _ _ d _ ih =>
    cases h2 with
    | step _ _ _ d' h' =>
      rw [d] at d'
      have := Int.ofNat.inj d'
      subst this
      exact ih h'
theorem be_lead {ns : List Nd} {x c : Nat} (h1 : 1 < c) (h2 : c < ns.length) (h3 : (nd ns c).kind = 2) (h4 : (nd ns c).parent = (x : Int)) : ∀ {k y : Nat}, Be ns c k y → Be ns x (k + 1) y := by
  intro k y h
  induction h with
  | here => exact Be.step h1 h2 h3 h4 Be.here
  | step a b c d _ ih => exact Be.step a b c d ih
theorem goL_comp (ns : List Nd) (vis : Nat → List Nat → Option (List Nat)) (dir s : Nat) (hu : Up ns s dir)
    (hv : ∀ c T, 1 < c → c < ns.length → (nd ns c).kind = 2 → Up ns (s + 1) c → (∀ y ∈ T, (nd ns y).kind = 2 → ∀ k, ¬ Be ns c (k + 1) y) → ∃ T', vis c T = some T' ∧ ∀ y ∈ T', (nd ns y).kind = 2 → y ∈ T ∨ ∃ k, Be ns c (k + 1) y) :
    ∀ (l : List En) (T : List Nat) (d : Nat), (∀ e ∈ l, okTo ns dir e) → (∀ x, (nd ns x).kind = 2 → (l.map fun e => e.node.toNat).count x ≤ 1) →
      (∀ e ∈ l, (nd ns e.node.toNat).kind = 2 → ∀ y ∈ T, (nd ns y).kind = 2 → ∀ k, ¬ Be ns e.node.toNat k y) →
      ∃ T', goL ns vis dir l T d = some (T', d + dirsIn ns l) ∧ ∀ y ∈ T', (nd ns y).kind = 2 → y ∈ T ∨ ∃ k, Be ns dir (k + 1) y := by
  intro l
  induction l with
  | nil => intro T d _ _ _; exact ⟨T, rfl, fun y hy _ => .inl hy⟩
  | cons e l ih =>
    intro T d hok hn hT
    obtain ⟨o1, o2, o3, o4⟩ := hok e (by simp)
    have hn' : ∀ x, (nd ns x).kind = 2 → (l.map fun e => e.node.toNat).count x ≤ 1 := by
      intro x hx
      have := hn x hx
      rw [List.map_cons, List.count_cons] at this
      omega
    by_cases hk2 : (nd ns e.node.toNat).kind = 2
    · have hpar := o4 hk2
      have huc : Up ns (s + 1) e.node.toNat := Up.step (by omega) (by omega) hk2 hpar hu
      have hnot : e.node.toNat ∉ T := fun hm => hT e (by simp) hk2 _ hm hk2 0 Be.here
      obtain ⟨T1, hT1, hin⟩ := hv e.node.toNat (e.node.toNat :: T) (by omega) (by omega) hk2 huc (by
        intro y hy hky k hb
        rcases List.mem_cons.1 hy with rfl | hy
        · have := be_self huc hb; omega
        · exact hT e (by simp) hk2 y hy hky _ hb)
      obtain ⟨T2, hT2, hin2⟩ := ih T1 (d + 1) (fun e' h => hok e' (by simp [h])) hn' (by
        intro e' he' hk' y hy hky k hb
        have ok' := hok e' (by simp [he'])
        have hu' : Up ns (s + 1) e'.node.toNat := Up.step (by have := ok'.1; omega) (by have := ok'.1; have := ok'.2.1; omega) hk' (ok'.2.2.2 hk') hu
        have hne : e'.node.toNat ≠ e.node.toNat := by
          intro he
          have := hn _ hk2
          rw [List.map_cons, List.count_cons_self] at this
          have h3 : 1 ≤ (l.map fun e => e.node.toNat).count e.node.toNat := List.count_pos_iff.2 (by rw [← he]; exact List.mem_map_of_mem he')
          omega
        rcases hin y hy hky with hy | ⟨j, hj⟩
        · rcases List.mem_cons.1 hy with rfl | hy
          · exact hne (be_same hu' huc hb Be.here)
          · exact hT e' (by simp [he']) hk' y hy hky _ hb
        · exact hne (be_same hu' huc hb hj))
      refine ⟨T2, ?_, ?_⟩
      · unfold goL
        rw [if_neg (by omega), if_neg o3, if_pos hk2, if_neg (by
          rw [List.count_cons_self, List.count_eq_zero.2 hnot]
          intro h
          rcases h with h | h
          · omega
          · exact h hpar), hT1]
        show goL ns vis dir l T1 (d + 1) = _
        rw [hT2]
        unfold dirsIn
        rw [List.filter_cons, if_pos (by simp [hk2]), List.length_cons]
        congr 2; omega
      · intro y hy hky
        rcases hin2 y hy hky with h | h
        · rcases hin y h hky with h | ⟨j, hj⟩
          · rcases List.mem_cons.1 h with rfl | h
            · exact .inr ⟨0, be_lead (by omega) (by omega) hk2 hpar Be.here⟩
            · exact .inl h
          · exact .inr ⟨j + 1, be_lead (by omega) (by omega) hk2 hpar hj⟩
        · exact .inr h
    · obtain ⟨T2, hT2, hin2⟩ := ih (e.node.toNat :: T) d (fun e' h => hok e' (by simp [h])) hn' (by
        intro e' he' hk' y hy hky k hb
        rcases List.mem_cons.1 hy with rfl | hy
        · exact hk2 hky
        · exact hT e' (by simp [he']) hk' y hy hky _ hb)
      refine ⟨T2, ?_, ?_⟩
      · unfold goL
        rw [if_neg (by omega), if_neg o3, if_neg hk2, hT2]
        unfold dirsIn
        rw [List.filter_cons, if_neg (by simp [hk2])]
      · intro y hy hky
        rcases hin2 y hy hky with h | h
        · rcases List.mem_cons.1 h with rfl | h
          · exact absurd hky hk2
          · exact .inl h
        · exact .inr h
theorem sumTo_at (n x : Nat) (g : Nat → Nat) (hx : x < n) : g x ≤ sumTo n g := by
  rw [← sumTo_one n x g hx]
  exact sumTo_le _ _ _ fun i _ => by split <;> omega
theorem times_at {ns : List Nd} {x y : Nat} (hy : y < ns.length) (hk : (nd ns y).kind = 2) : (tg ns y).count x ≤ times ns x := by
  have := sumTo_at ns.length y (fun y => if (nd ns y).kind = 2 then (tg ns y).count x else 0) hy
  rw [if_pos hk] at this
  exact this
theorem times_by {ns : List Nd} {x : Nat} (h : 1 ≤ times ns x) : ∃ y, y < ns.length ∧ (nd ns y).kind = 2 ∧ 1 ≤ (tg ns y).count x := by
  refine Decidable.byContradiction fun hn => ?_
  have e : times ns x = sumTo ns.length fun _ => 0 := by
    unfold times
    refine sumTo_eq _ _ _ fun y hy => ?_
    split
    · rename_i hk
      refine Decidable.byContradiction fun h0 => hn ⟨y, hy, hk, by omega⟩
    · rfl
  rw [sumTo_zero] at e
  omega
theorem visitP_comp (ns : List Nd) (hh : Hung ns) : ∀ (f x s : Nat) (T : List Nat), s + f = 33 → x < ns.length → (nd ns x).kind = 2 → Up ns s x → (∀ y ∈ T, (nd ns y).kind = 2 → ∀ k, ¬ Be ns x (k + 1) y) →
    ∃ T', visitP ns f x T = some T' ∧ ∀ y ∈ T', (nd ns y).kind = 2 → y ∈ T ∨ ∃ k, Be ns x (k + 1) y := by
  intro f
  induction f with
  | zero =>
    intro x s T hs hx hk hu _
    obtain ⟨t, ht, hut⟩ := (hh.good x hx hk).2
    have := up_one hu hut
    omega
  | succ f ih =>
    intro x s T hs hx hk hu hT
    have hc := (hh.good x hx hk).1
    obtain ⟨T', hT', hin⟩ := goL_comp ns (visitP ns f) x s hu (fun c T a b c' d e => ih c (s + 1) T (by omega) b c' d e) (nd ns x).list T 0 hc.1 (by
      intro y hy
      by_cases hm : y ∈ (nd ns x).list.map fun e => e.node.toNat
      · obtain ⟨e, he, rfl⟩ := List.mem_map.1 hm
        obtain ⟨o1, o2, _⟩ := hc.1 e he
        have h1 := hh.once e.node.toNat (by omega) (by omega) hy
        have h2 := times_at (x := e.node.toNat) hx hk
        unfold tg at h2
        omega
      · rw [List.count_eq_zero.2 hm]; omega) (by
      intro e he hke y hy hky k hb
      obtain ⟨o1, o2, _, o4⟩ := hc.1 e he
      exact hT y hy hky k (be_lead (by omega) (by omega) hke (o4 hke) hb))
    refine ⟨T', ?_, hin⟩
    unfold visitP
    rw [hT']
    show (if (nd ns x).links = 2 + ((0 + dirsIn ns (nd ns x).list : Nat) : Int) then some T' else none) = some T'
    rw [if_pos (by rw [hc.2, Nat.zero_add])]
/-- lists that hang together: the walk through them says so -/
theorem hangs_of {ns : List Nd} (h1 : 1 < ns.length) (h0 : (nd ns 0).kind = 0) (hk : (nd ns 1).kind = 2) (hh : Hung ns) : hangsP ns = true := by
  obtain ⟨T, hT, _⟩ := visitP_comp ns hh 33 1 0 [] rfl h1 hk Up.root (by simp)
  have ho := visitP_once ns 33 1 [] T (once_nil ns) hT
  have hi := visitP_in ns (fun x => 1 < x ∧ x < ns.length) (fun x a b _ => ⟨a, b⟩) 33 1 [] T (by simp) hT
  have hc1 : T.count 1 = 0 := List.count_eq_zero.2 fun hm => by have := (hi 1 hm).1; omega
  have hs : ∀ x, T.count x = sumTo ns.length (fun y => T.count y * (if (nd ns y).kind = 2 then (tg ns y).count x else 0)) + (tg ns 1).count x := by
    intro x
    have hs := visitP_sum ns (fun z => if z = x then 1 else 0) 33 1 [] T hT
    rw [wsum_count, wsum_count, wsum_count, show wsum (below ns fun z => if z = x then 1 else 0) [] = 0 from rfl, List.count_nil] at hs
    have e1 : wsum (below ns fun z => if z = x then 1 else 0) T = sumTo ns.length fun y => T.count y * (if (nd ns y).kind = 2 then (tg ns y).count x else 0) := by
      unfold wsum
      rw [sum_count ns.length _ T fun y hy => (hi y hy).2]
      refine sumTo_eq _ _ _ fun y _ => ?_
      unfold below
      rw [wsum_count]
    omega
  have hd : ∀ s y, Up ns s y → 2 ≤ y → 1 ≤ T.count y := by
    intro s
    induction s with
    | zero => intro y hu hy; cases hu; omega
    | succ s ih =>
      intro y hu hy
      cases hu with
      | @step _ _ p a b c d hp =>
        obtain ⟨z, hz, hkz, hcz⟩ := times_by (hh.listed y hy b (by rw [c]; decide))
        have hmem : y ∈ tg ns z := List.count_pos_iff.1 (by omega)
        unfold tg at hmem
        obtain ⟨e, he, hey⟩ := List.mem_map.1 hmem
        have o4 := ((hh.good z hz hkz).1.1 e he).2.2.2
        rw [hey] at o4
        have hzp := o4 c
        rw [d] at hzp
        have hzp := Int.ofNat.inj hzp
        subst hzp
        rw [hs y]
        by_cases ep : p = 1
        · subst ep; omega
        · have hp2 : 2 ≤ p := by
            by_cases p0 : p = 0
            · subst p0; rw [h0] at hkz; exact absurd hkz (by decide)
            · omega
          have h3 := ih p hp hp2
          have h4 := sumTo_at ns.length p (fun z => T.count z * (if (nd ns z).kind = 2 then (tg ns z).count y else 0)) hz
          simp only [if_pos hkz] at h4
          have h5 := Nat.mul_le_mul h3 hcz
          omega
  have ht : ∀ x, T.count x = times ns x := by
    intro x
    have e2 : times ns x = sumTo ns.length (fun y => T.count y * (if (nd ns y).kind = 2 then (tg ns y).count x else 0) + if y = 1 then (tg ns y).count x else 0) := by
      unfold times
      refine sumTo_eq _ _ _ fun y hy => ?_
      by_cases hk2 : (nd ns y).kind = 2
      · rw [if_pos hk2]
        by_cases ey : y = 1
        · subst ey; rw [if_pos rfl, hc1]; omega
        · have hy2 : 2 ≤ y := by
            by_cases y0 : y = 0
            · subst y0; rw [h0] at hk2; exact absurd hk2 (by decide)
            · omega
          have a1 := ho y hk2
          obtain ⟨t, _, hut⟩ := (hh.good y hy hk2).2
          have a2 := hd t y hut hy2
          rw [show T.count y = 1 by omega, if_neg ey]; omega
      · rw [if_neg hk2, if_neg (fun e => hk2 (by rw [e]; exact hk))]; omega
    rw [sumTo_add, sumTo_one ns.length 1 (fun y => (tg ns y).count x) h1] at e2
    rw [hs x, e2]
  unfold hangsP
  rw [hT]
  show listedP ns T = true
  unfold listedP
  refine allTo_true.2 fun i hi2 => ?_
  unfold listedOk oneListed
  simp only [Bool.or_eq_true, Bool.and_eq_true, Bool.not_eq_true', decide_eq_true_eq, decide_eq_false_iff_not]
  by_cases k0 : (nd ns (i + 2)).kind = 0
  · exact .inl k0
  · right
    have a1 := hh.listed (i + 2) (by omega) (by omega) k0
    rw [ht]
    refine ⟨by omega, ?_⟩
    by_cases k2 : (nd ns (i + 2)).kind = 2
    · exact .inl k2
    · exact .inr (hh.links (i + 2) (by omega) (by omega) k0 k2)
theorem hangs_iff {ns : List Nd} (h1 : 1 < ns.length) (h0 : (nd ns 0).kind = 0) (hk : (nd ns 1).kind = 2) : hangsP ns = true ↔ Hung ns :=
  ⟨hung_of h1 h0 hk, hangs_of h1 h0 hk⟩
end Go.Proofs.YthmoinagfooncaaGreatDoor.Tr
