/- The names that lead to a directory lead to it, in plain words. -/
import Derived.Test.YthmoinagfooncaaDoorTrPathW
namespace Go.Proofs.YthmoinagfooncaaDoor.Tr
open Go.RowKit Go.Proofs.YthmoinagfooncaaDoor.Cu

theorem count_pos_sum {n : Nat} {g : Nat → Nat} (h : 1 ≤ sumTo n g) : ∃ y, y < n ∧ 1 ≤ g y := by
  induction n with
  | zero => simp [sumTo] at h
  | succ n ih =>
    rw [sumTo_succ] at h
    by_cases e : 1 ≤ g n
    · exact ⟨n, by omega, e⟩
    · obtain ⟨y, hy, hg⟩ := ih (by omega)
      exact ⟨y, by omega, hg⟩
/-- a directory is listed by its parent, and just once -/
theorem listed_once {ns : List Nd} (h : Hung ns) {d p : Nat} (hd : 2 ≤ d) (hn : d < ns.length) (hk : (nd ns d).kind = 2) (hp : (nd ns d).parent = (p : Int)) : (tg ns p).count d = 1 ∧ (nd ns p).kind = 2 ∧ p < ns.length := by
  have ht := h.once d hd hn hk
  have huniq : ∀ y, y < ns.length → (nd ns y).kind = 2 → 1 ≤ (tg ns y).count d → y = p := by
    intro y hy hky hc
    have hm : d ∈ tg ns y := List.count_pos_iff.1 (by omega)
    unfold tg at hm
    obtain ⟨e, he, hed⟩ := List.mem_map.1 hm
    have := ((h.good y hy hky).1.1 e he).2.2.2 (by rw [hed]; exact hk)
    rw [hed, hp] at this
    omega
  have ht1 : 1 ≤ sumTo ns.length (fun y => if (nd ns y).kind = 2 then (tg ns y).count d else 0) := by
    have := ht
    unfold times at this
    omega
  obtain ⟨y, hy, hg⟩ := count_pos_sum ht1
  by_cases hky : (nd ns y).kind = 2
  · rw [if_pos hky] at hg
    obtain rfl := huniq y hy hky hg
    refine ⟨?_, hky, hy⟩
    have := sumTo_le ns.length (fun j => if j = y then (tg ns j).count d else 0) (fun j => if (nd ns j).kind = 2 then (tg ns j).count d else 0) (fun j _ => by
      by_cases ej : j = y
      · subst ej; rw [if_pos rfl, if_pos hky]; exact Nat.le_refl _
      · rw [if_neg ej]; exact Nat.zero_le _)
    rw [sumTo_one ns.length y (fun j => (tg ns j).count d) hy] at this
    unfold times at ht
    omega
  · rw [if_neg hky] at hg; omega
theorem hits_one {ns : List Nd} (h : Hung ns) {d p : Nat} (hd : 2 ≤ d) (hn : d < ns.length) (hk : (nd ns d).kind = 2) (hp : (nd ns d).parent = (p : Int)) : ∃ k, k < (nd ns p).list.length ∧ (en (nd ns p).list k).node = (d : Int) ∧ hits (nd ns p).list d = [(en (nd ns p).list k).name] := by
  obtain ⟨hc, hkp, hpn⟩ := listed_once h hd hn hk hp
  have hok := (h.good p hpn hkp).1.1
  have key : ∀ l : List En, (∀ e ∈ l, 1 < e.node) → (l.map fun e => e.node.toNat).count d = 1 → ∃ k, k < l.length ∧ (en l k).node = (d : Int) ∧ hits l d = [(en l k).name] := by
    intro l
    induction l with
    | nil => intro _ h; simp at h
    | cons e l ih =>
      intro hl hcn
      rw [List.map_cons] at hcn
      have he := hl e (by simp)
      by_cases ed : e.node.toNat = d
      · refine ⟨0, by simp, ?_, ?_⟩
        · show e.node = (d : Int); omega
        · have h0 : (l.map fun e => e.node.toNat).count d = 0 := by rw [ed, List.count_cons_self] at hcn; omega
          have : l.filter (fun e => decide (e.node = (d : Int))) = [] := by
            rw [List.filter_eq_nil_iff]
            intro x hx
            simp only [decide_eq_true_eq]
            intro hxd
            exact List.count_eq_zero.1 h0 (List.mem_map.2 ⟨x, hx, by rw [hxd]; simp⟩)
          unfold hits
          rw [List.filter_cons, if_pos (by simp; omega), this]
          rfl
      · rw [List.count_cons_of_ne ed] at hcn
        obtain ⟨k, h1, h2, h3⟩ := ih (fun x hx => hl x (by simp [hx])) hcn
        refine ⟨k + 1, by simp; omega, h2, ?_⟩
        have e1 : hits (e :: l) d = hits l d := by
          unfold hits
          rw [List.filter_cons, if_neg (by simp; omega)]
        rw [e1, h3]; rfl
  exact key _ (fun e he => (hok e he).1) hc
/-- from a directory on, name by name -/
def walkN (ns : List Nd) : Nat → List ByteArray → Nat
  | c, [] => c
  | c, x :: r => walkN ns (findP (nd ns c).list x).toNat r
theorem walkN_snoc (ns : List Nd) (l : List ByteArray) (x : ByteArray) : ∀ c, walkN ns c (l ++ [x]) = (findP (nd ns (walkN ns c l)).list x).toNat := by
  induction l with
  | nil => intro c; rfl
  | cons y l ih => intro c; exact ih _
/-- the names lead to the directory, and on the way to directories -/
theorem names_lead {now : Int} {ns : List Nd} (hc : checkP now ns = true) {s d : Nat} (h : Up ns s d) : (namesUp ns s d).length = s ∧ ∀ j, j ≤ s → Up ns j (walkN ns 1 ((namesUp ns s d).reverse.take j)) ∧ (j = s → walkN ns 1 ((namesUp ns s d).reverse.take j) = d) := by
  have hh := hung_check hc
  induction h with
  | root =>
    refine ⟨rfl, fun j hj => ?_⟩
    obtain rfl : j = 0 := by omega
    exact ⟨Up.root, fun _ => rfl⟩
  | @step s x p h1 h2 h3 h4 h5 ih =>
    obtain ⟨ihl, ihj⟩ := ih
    obtain ⟨k, hk1, hk2, hk3⟩ := hits_one hh h1 h2 h3 h4
    have e1 : namesUp ns (s + 1) x = (en (nd ns p).list k).name :: namesUp ns s p := by
      show hits (nd ns (nd ns x).parent.toNat).list x ++ namesUp ns s (nd ns x).parent.toNat = _
      rw [h4, Int.toNat_natCast, hk3]; rfl
    have hlen : (namesUp ns (s + 1) x).length = s + 1 := by rw [e1, List.length_cons, ihl]
    refine ⟨hlen, fun j hj => ?_⟩
    rw [e1, List.reverse_cons]
    by_cases hjs : j ≤ s
    · rw [List.take_append_of_le_length (by rw [List.length_reverse, ihl]; exact hjs)]
      exact ⟨(ihj j hjs).1, fun e => by omega⟩
    · obtain rfl : j = s + 1 := by omega
      rw [List.take_of_length_le (by simp [ihl]), walkN_snoc]
      have hw := (ihj s (Nat.le_refl _)).2 rfl
      rw [List.take_of_length_le (by rw [List.length_reverse, ihl]; exact Nat.le_refl _)] at hw
      rw [hw]
      have hpl : listP (nd ns p).list = true := by
        obtain ⟨_, hkp, hpn⟩ := listed_once hh h1 h2 h3 h4
        rcases kind_list ((checkP_parts hc).2.2.2.2.2.1 p hpn) with ⟨_, q⟩ | ⟨q, _⟩
        · exact q
        · exact absurd hkp q
      rw [find_at (rises_of hpl) k hk1 rfl, hk2, Int.toNat_natCast]
      exact ⟨Up.step h1 h2 h3 h4 h5, fun _ => rfl⟩
/-- a name has no slash in it -/
theorem nameP_no {s : ByteArray} (h : nameP s = true) : ∀ c ∈ bs s, c ≠ 47 := by
  unfold nameP hasB at h
  simp only [Bool.and_eq_true, decide_eq_true_eq, Bool.not_eq_true', decide_eq_false_iff_not] at h
  intro c hc e
  subst e
  exact h.2 hc
/-- names with slashes between -/
def jn : List ByteArray → Bs
  | [] => []
  | [x] => bs x
  | x :: y :: r => bs x ++ 47 :: jn (y :: r)
theorem jn_join (l : List ByteArray) : Lib.join (l.map (·.data.toList)) [47] = jn l := by
  induction l with
  | nil => rfl
  | cons x l ih =>
    cases l with
    | nil => exact Lib.join_one _ _
    | cons y r =>
      rw [List.map_cons, Lib.join_cons]
      show x.data.toList ++ Lib.joinTail [47] ((y :: r).map (·.data.toList)) = bs x ++ 47 :: jn (y :: r)
      rw [← ih, List.map_cons, Lib.join_cons]
      simp [Lib.joinTail]
end Go.Proofs.YthmoinagfooncaaDoor.Tr
