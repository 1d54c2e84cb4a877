/- The user 0 walks through all of a tree, in plain words. -/
import Derived.Test.YtbajjbgeohbdjaaWkSz
import Derived.Test.YtbajjbgeohbdjaaWkWalk
namespace Go.Proofs.Ytbajjbgeohbdjaa.Wk
open Go.RowKit Go.Proofs.Ytbajjbgeohbdjaa.Cu Go.Proofs.Ytbajjbgeohbdjaa.Tr Go.Proofs.Ytbajjbgeohbdjaa.Pm Go.Proofs.Ytbajjbgeohbdjaa.Pt

def eR : Ev := ⟨0, 0, 0, 1⟩
def rtP : ByteArray := ⟨#[47]⟩
theorem may0 {n : Nd} (h : n.kind = 2) : mayP n eR 5 = true := by
  unfold mayP
  rw [if_neg (by rw [h]; decide), if_pos (by rfl)]
  unfold passP
  rw [h]
  rfl
set_option maxRecDepth 100000 in
theorem find_root {now : Int} {ns : List Nd} (hc : checkP now ns = true) : ∃ b, findA now ns eR rtP false = (⟨1, ⟨#[]⟩, 1, b⟩, 0) := by
  obtain ⟨a1, _, _, a2, _⟩ := checkP_parts hc
  have h1 : someP now ns eR = true := by
    rw [someP_is, hc]
    show (ownerP 0 && ownerP 0 && decide ((0 : Int) ≤ 0) && decide ((0 : Int) ≤ 511) && (true && decide ((0 : Int) < 1) && decide ((1 : Int) < (ns.length : Int)) && !decide ((nd ns 1).kind = 0) && decide ((nd ns 1).kind = 2))) = true
    have h2 : (1 : Int) < (ns.length : Int) := by omega
    simp [a2, h2, ownerP]
  have hb : badP rtP = false := by decide +kernel
  have hg : begins rtP = true := by decide +kernel
  have hp : partsP rtP = [] := by decide +kernel
  unfold findA inPath
  rw [if_neg (by rw [h1]; decide), if_neg (by decide), if_neg (by rw [hb]; decide), hg, hp, if_pos rfl]
  exact ⟨ends rtP, rfl⟩
theorem walk_root {now : Int} {ns : List Nd} (hc : checkP now ns = true) : walkP now ns eR rtP 33 = (wkP ns eR 33 34 0 rtP 1, [], 0) := by
  obtain ⟨b, h⟩ := find_root hc
  unfold walkP
  rw [h, if_neg (by simp), if_neg (by simp)]
  have hs : ∀ l : List Sp, shL ns eR 33 l = [] := fun l => by
    unfold shL
    rw [List.map_eq_nil_iff, List.filter_eq_nil_iff]
    intro s _
    unfold shP
    by_cases hk : (nd ns s.node.toNat).kind = 2
    · rw [may0 hk]; simp
    · simp [hk]
  rw [hs]
  rfl
theorem wsum_mem (g : Nat → Nat) {l : List Nat} {x : Nat} (h : x ∈ l) : g x ≤ wsum g l := by
  induction l with
  | nil => cases h
  | cons y l ih =>
    rw [wsum_cons]
    rcases List.mem_cons.1 h with rfl | h
    · omega
    · have := ih h; omega
theorem bels_eq {ns : List Nd} (e : Ev) (deep : Int) (wt : Nat → Nat) : ∀ l : List Sp, (∀ s ∈ l, s.after = false → (nd ns s.node.toNat).kind = 2 → enP ns e deep s.node.toNat s.depth.toNat = true) → bels ns e deep wt l = wsum (below ns wt) (vsL l)
  | [], _ => rfl
  | s :: l, h => by
    have ih := bels_eq (ns := ns) e deep wt l fun s hs => h s (by simp [hs])
    rw [← List.singleton_append, bels_app, vsL_app, wsum_app, ih]
    congr 1
    have h0 := h s (by simp)
    unfold bels bel vsL wsum below
    simp only [List.map_cons, List.map_nil, List.sum_cons, List.sum_nil, List.filter_cons, List.filter_nil]
    cases ha : s.after with
    | true => simp
    | false =>
      simp only [Bool.not_false, if_true, List.map_cons, List.map_nil, List.sum_cons, List.sum_nil, true_and]
      by_cases hk : (nd ns s.node.toNat).kind = 2
      · rw [if_pos hk, if_pos hk]
        unfold lsP
        rw [if_pos (h0 ha hk)]
        rfl
      · rw [if_neg hk, if_neg hk]
theorem wk_dep {ns : List Nd} (hh : Hung ns) (e : Ev) (deep : Int) {f d : Nat} {p : ByteArray} {n : Nat} (h : In ns f n) (hd : (nd ns n).kind = 2 → Up ns d n) : ∀ s ∈ wkP ns e deep f d p n, (nd ns s.node.toNat).kind = 2 → Up ns s.depth.toNat s.node.toNat := by
  refine wk_all hh e deep (fun _ d _ n => (nd ns n).kind = 2 → Up ns d n) _ (fun f d p n _ hq => ⟨hq, fun _ => hq⟩) (fun f d p n x hi hq hk hx hk2 => ?_) f d p n h hd
  exact (hi.child hh hk (lsP_mem hx)).2.2.2 d (hq hk) hk2
theorem wk_full {now : Int} {ns : List Nd} (hc : checkP now ns = true) : ∀ s ∈ wkP ns eR 33 34 0 rtP 1, s.after = false → (nd ns s.node.toNat).kind = 2 → enP ns eR 33 s.node.toNat s.depth.toNat = true := by
  intro s hs _ hk
  have hh := hung_check hc
  obtain ⟨a1, _, _, a2, _⟩ := checkP_parts hc
  have hin := in_start hc (n := 1) (by omega) (by omega) (by rw [a2]; decide)
  have h1 := wk_dep hh eR 33 hin (fun _ => Up.root) s hs hk
  obtain ⟨k, e1, _, e2, _⟩ := wk_in hh eR 33 hin s hs
  have hl : s.node.toNat < ns.length := by rw [e1, Int.toNat_natCast]; exact e2
  obtain ⟨_, t, ht, hu⟩ := hh.good _ hl hk
  have := up_inj h1 hu
  unfold enP
  rw [may0 hk, Bool.and_true, decide_eq_true_eq]
  omega
theorem cnt_sum {now : Int} {ns : List Nd} (hc : checkP now ns = true) (z : Nat) : (vsL (wkP ns eR 33 34 0 rtP 1)).count z = (if 1 = z then 1 else 0) + wsum (fun y => if (nd ns y).kind = 2 then (tg ns y).count z else 0) (vsL (wkP ns eR 33 34 0 rtP 1)) := by
  obtain ⟨a1, _, _, a2, _⟩ := checkP_parts hc
  have h := wk_sum (hung_check hc) eR 33 (fun x => if x = z then 1 else 0) 34 0 rtP 1 (in_start hc (by omega) (by omega) (by rw [a2]; decide))
  rw [wsum_count, bels_eq eR 33 _ _ (wk_full hc)] at h
  rw [h]
  congr 1
  unfold wsum
  congr 1
  refine List.map_congr_left fun y _ => ?_
  exact below_count ns z y
theorem dir_once {now : Int} {ns : List Nd} (hc : checkP now ns = true) {s z : Nat} (hz : Up ns s z) : (nd ns z).kind = 2 → (vsL (wkP ns eR 33 34 0 rtP 1)).count z = 1 := by
  obtain ⟨a1, _, _, a2, _⟩ := checkP_parts hc
  have hh := hung_check hc
  have hin := in_start hc (n := 1) (by omega) (by omega) (by rw [a2]; decide)
  induction hz with
  | root =>
    intro hk
    have h1 := wk_once hh a2 eR 33 (d := 0) (p := rtP) hin Up.root hk
    have h2 := cnt_sum hc 1
    rw [if_pos rfl] at h2
    omega
  | @step s z q h1 h2 h3 h4 h5 ih =>
    intro hk
    have b1 := wk_once hh a2 eR 33 (d := 0) (p := rtP) hin (Up.step h1 h2 h3 h4 h5) hk
    have hq : (nd ns q).kind = 2 := by
      cases h5 with
      | root => exact a2
      | step _ _ b _ _ => exact b
    have b2 := ih hq
    have hql : q < ns.length := by
      cases h5 with
      | root => omega
      | step _ b _ _ _ => exact b
    have hm : q ∈ vsL (wkP ns eR 33 34 0 rtP 1) := List.count_pos_iff.1 (by omega)
    have b3 := cnt_sum hc z
    have b4 := wsum_mem (fun y => if (nd ns y).kind = 2 then (tg ns y).count z else 0) hm
    rw [if_pos hq] at b4
    have b5 : 1 ≤ (tg ns q).count z := by
      -- the one that lists it is its parent
      have ht := hh.once z (by omega) h2 h3
      unfold times at ht
      obtain ⟨y, hy, hc1⟩ : ∃ y, y < ns.length ∧ 1 ≤ (if (nd ns y).kind = 2 then (tg ns y).count z else 0) := by
        refine Decidable.byContradiction fun hn => ?_
        have : sumTo ns.length (fun y => if (nd ns y).kind = 2 then (tg ns y).count z else 0) ≤ sumTo ns.length (fun _ => 0) := sumTo_le _ _ _ fun i hi => by
          refine Decidable.byContradiction fun hx => hn ⟨i, hi, by omega⟩
        have h0 : ∀ n, sumTo n (fun _ => 0) = 0 := fun n => by
          induction n with
          | zero => rfl
          | succ n ih => rw [sumTo_succ, ih]
        rw [h0] at this
        omega
      split at hc1
      · rename_i hky
        by_cases ey : y = q
        · rw [← ey]; exact hc1
        · rw [tg_count hh h3 h4 hy hky ey] at hc1; omega
      · omega
    omega
theorem cnt_all {now : Int} {ns : List Nd} (hc : checkP now ns = true) (z : Nat) : (vsL (wkP ns eR 33 34 0 rtP 1)).count z = (if 1 = z then 1 else 0) + times ns z := by
  obtain ⟨a1, _, _, a2, _⟩ := checkP_parts hc
  have hh := hung_check hc
  have hin := in_start hc (n := 1) (by omega) (by omega) (by rw [a2]; decide)
  rw [cnt_sum hc z]
  congr 1
  unfold wsum times
  rw [sum_count ns.length _ _ fun y hy => (vs_in hh hin hy).2.1]
  have hcg : ∀ (m : Nat) (g h : Nat → Nat), (∀ i, i < m → g i = h i) → sumTo m g = sumTo m h := fun m g h hgh => by
    unfold sumTo
    congr 1
    exact List.map_congr_left fun i hi => hgh i (List.mem_range.1 hi)
  refine hcg _ _ _ fun i hi => ?_
  by_cases hk : (nd ns i).kind = 2
  · obtain ⟨_, s, _, hs⟩ := hh.good i hi hk
    rw [if_pos hk, dir_once hc hs hk]
    exact Nat.one_mul _
  · rw [if_neg hk]; exact Nat.mul_zero _
/-- as often as the tree tells -/
theorem cnt_want {now : Int} {ns : List Nd} (hc : checkP now ns = true) {z : Nat} (h0 : 0 < z) (hz : z < ns.length) : (((vsL (wkP ns eR 33 34 0 rtP 1)).count z : Nat) : Int) = if (nd ns z).kind = 2 then 1 else (nd ns z).links := by
  obtain ⟨a1, _, _, a2, _, a3, _⟩ := checkP_parts hc
  have hh := hung_check hc
  have hin := in_start hc (n := 1) (by omega) (by omega) (by rw [a2]; decide)
  by_cases hk : (nd ns z).kind = 2
  · obtain ⟨_, s, _, hs⟩ := hh.good z hz hk
    rw [if_pos hk, dir_once hc hs hk]; rfl
  rw [if_neg hk]
  have h2 : 2 ≤ z := by
    refine Decidable.byContradiction fun h => hk ?_
    obtain rfl : z = 1 := by omega
    exact a2
  by_cases hk0 : (nd ns z).kind = 0
  · have h1 := a3 z hz
    unfold kindP at h1
    rw [if_pos hk0] at h1
    unfold freeP at h1
    simp only [Bool.and_eq_true, decide_eq_true_eq] at h1
    rw [List.count_eq_zero.2 fun hm => (vs_in hh hin hm).2.2 hk0, h1.1.1.1.1.2]; rfl
  · rw [cnt_all hc z, if_neg (by omega), hh.links z h2 hz hk0 hk]; simp
end Go.Proofs.Ytbajjbgeohbdjaa.Wk
