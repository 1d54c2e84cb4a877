/- What is in a whole tree, by a walk's sizes, in plain words. -/
import Derived.Test.YtbajjbgeohbdjaaWkAllP
namespace Go.Proofs.Ytbajjbgeohbdjaa.Wk
open Go.RowKit Go.Proofs.Ytbajjbgeohbdjaa.Cu Go.Proofs.Ytbajjbgeohbdjaa.Tr Go.Proofs.Ytbajjbgeohbdjaa.Pm Go.Proofs.Ytbajjbgeohbdjaa.Pt

def lksP (ns : List Nd) (k : Nat) : Nat := sumTo k fun i => (nd ns i).target.size
theorem bytes_sum (ns : List Nd) : ∀ k, k ≤ ns.length → bytesP ns k = sumTo k (fun i => (nd ns i).data.length) := by
  intro k
  induction k with
  | zero => intro _; simp [bytesP, sumTo]
  | succ k ih =>
    intro h
    have e : ns.take (k + 1) = ns.take k ++ [nd ns k] := by
      rw [List.take_succ_eq_append_getElem (by omega)]; simp [nd, List.getD, List.getElem?_eq_getElem (show k < ns.length by omega)]
    rw [sumTo_succ, ← ih (by omega)]
    unfold bytesP
    rw [e]; simp
theorem sumTo_add (n : Nat) (g h : Nat → Nat) : sumTo n (fun i => g i + h i) = sumTo n g + sumTo n h := by
  induction n with
  | zero => rfl
  | succ n ih => rw [sumTo_succ, sumTo_succ, sumTo_succ, ih]; omega
theorem sumTo_eq (n : Nat) (g h : Nat → Nat) (e : ∀ i, i < n → g i = h i) : sumTo n g = sumTo n h := by
  unfold sumTo
  congr 1
  exact List.map_congr_left fun i hi => e i (List.mem_range.1 hi)
theorem sumTo_put (n d : Nat) (g h : Nat → Nat) (c : Nat) (hd : d < n) (e : ∀ y, y ≠ d → g y = h y) (e2 : g d = h d + c) : sumTo n g = sumTo n h + c := by
  have h1 : sumTo n g = sumTo n fun i => h i + if i = d then c else 0 := sumTo_eq _ _ _ fun i _ => by
    by_cases q : i = d
    · rw [if_pos q, q, e2]
    · rw [if_neg q, e i q]; rfl
  rw [h1, sumTo_add, sumTo_one n d (fun _ => c) hd]
theorem look_upd {k s : Sp} {v : Int} : ∀ {l : List (Sp × Int)}, k ≠ s → look k (upd s v l) = look k l
  | [], h => by
    show (if sameS s k = true then some v else none) = none
    rw [if_neg (fun e => h ((sameS_iff _ _).1 e).symm)]
  | q :: l, h => by
    rw [upd]
    split
    · rename_i e
      have e1 := (sameS_iff _ _).1 e
      rw [look, look, if_neg (fun e => h ((sameS_iff _ _).1 e).symm), if_neg (fun e2 => h (((sameS_iff _ _).1 e2).symm.trans e1))]
    · rw [look, look, look_upd h]
theorem look_del {k s : Sp} : ∀ {l : List (Sp × Int)}, k ≠ s → look k (del s l) = look k l
  | [], h => rfl
  | q :: l, h => by
    rw [del]
    split
    · rename_i e
      have e1 := (sameS_iff _ _).1 e
      rw [look, if_neg (fun e2 => h (((sameS_iff _ _).1 e2).symm.trans e1))]
    · rw [look, look, look_del h]
def r0 : Sp := ⟨rtP, 1, 0, false⟩
/-- on the way through the steps below the root -/
structure Iv (ns : List Nd) (l : List Sp) (y : Ty) : Prop where
  bytes : y.bytes = ((sumTo ns.length fun z => if z ∈ y.met then szP (nd ns z) else 0 : Nat) : Int)
  met : ∀ z, z ∈ y.met ↔ z ∈ vsL l ∧ (nd ns z).kind ≠ 2
  root : look r0 y.beg = some 0
theorem iv_step {ns : List Nd} {l : List Sp} {y : Ty} (h : Iv ns l y) (s : Sp) (k : Nat) (h1 : s.node = (k : Int)) (h2 : 0 < k) (h3 : k < ns.length) (h4 : (nd ns k).kind ≠ 0) (h5 : s.after = true → (nd ns k).kind = 2) (h6 : s.depth ≠ 0) : Iv ns (l ++ [s]) (szT ns y s).2 := by
  have hn : nodeAt ns s.node = nd ns k := by
    unfold nodeAt
    rw [h1, if_neg (by omega)]; rfl
  have hk : s.node.toNat = k := by rw [h1]; rfl
  have hvs : ∀ z, z ∈ vsL (l ++ [s]) ↔ z ∈ vsL l ∨ (s.after = false ∧ z = k) := fun z => by
    rw [vsL_app, List.mem_append]
    unfold vsL
    cases hsa : s.after <;> simp [hsa, hk]
  unfold szT
  rw [hn, if_neg h4, hk]
  by_cases hd : (nd ns k).kind = 2
  · rw [if_neg (by simp [hd])]
    have hmet : ∀ z, z ∈ y.met ↔ z ∈ vsL (l ++ [s]) ∧ (nd ns z).kind ≠ 2 := fun z => by
      rw [h.met, hvs]
      constructor
      · rintro ⟨a, b⟩; exact ⟨.inl a, b⟩
      · rintro ⟨a | ⟨_, rfl⟩, b⟩
        · exact ⟨a, b⟩
        · exact absurd hd b
    have hne : r0 ≠ s := fun e => h6 (by rw [← e]; rfl)
    have hnk : r0 ≠ keyS s := fun e => h6 (by have := congrArg Sp.depth e; exact this.symm)
    split
    · refine ⟨?_, ?_, ?_⟩ <;> (unfold endY; split)
      · exact h.bytes
      · exact h.bytes
      · exact hmet
      · exact hmet
      · exact h.root
      · exact (look_del hnk).trans h.root
    · exact ⟨h.bytes, hmet, (look_upd hne).trans h.root⟩
  · have hsa : s.after = false := by
      cases hsa : s.after with
      | false => rfl
      | true => exact absurd (h5 hsa) hd
    rw [if_pos hd]
    by_cases hm : k ∈ y.met
    · rw [if_pos hm]
      refine ⟨h.bytes, fun z => ?_, h.root⟩
      rw [hvs]
      constructor
      · intro hz
        have := (h.met z).1 hz
        exact ⟨.inl this.1, this.2⟩
      · rintro ⟨a | ⟨_, rfl⟩, b⟩
        · exact (h.met z).2 ⟨a, b⟩
        · exact hm
    · rw [if_neg hm]
      refine ⟨?_, fun z => ?_, h.root⟩
      · have := sumTo_put ns.length k (fun z => if z ∈ k :: y.met then szP (nd ns z) else 0) (fun z => if z ∈ y.met then szP (nd ns z) else 0) (szP (nd ns k)) h3 (fun z hz => by
          simp [hz]) (by simp [hm])
        show y.bytes + (szP (nd ns k) : Int) = _
        rw [this, h.bytes]; simp
      · rw [hvs]
        constructor
        · intro hz
          rcases List.mem_cons.1 hz with rfl | hz
          · exact ⟨.inr ⟨hsa, rfl⟩, hd⟩
          · have := (h.met z).1 hz
            exact ⟨.inl this.1, this.2⟩
        · rintro ⟨a | ⟨_, rfl⟩, b⟩
          · exact List.mem_cons.2 (.inr ((h.met z).2 ⟨a, b⟩))
          · exact List.mem_cons.2 (.inl rfl)
theorem iv_all {ns : List Nd} : ∀ (m l : List Sp) (y : Ty), (∀ s ∈ m, s.depth ≠ 0 ∧ ∃ k : Nat, s.node = (k : Int) ∧ 0 < k ∧ k < ns.length ∧ (nd ns k).kind ≠ 0 ∧ (s.after = true → (nd ns k).kind = 2)) → Iv ns l y → Iv ns (l ++ m) (szAll ns y m).2
  | [], l, y, _, h => by rw [List.append_nil]; exact h
  | s :: m, l, y, hs, h => by
    obtain ⟨h6, k, h1, h2, h3, h4, h5⟩ := hs s (by simp)
    have := iv_all m (l ++ [s]) (szT ns y s).2 (fun q hq => hs q (by simp [hq])) (iv_step h s k h1 h2 h3 h4 h5 h6)
    rw [List.append_assoc] at this
    exact this
theorem wkL_mem {g : ByteArray → Nat → List Sp} {p : ByteArray} {s : Sp} : ∀ {l : List En}, s ∈ wkL g p l → ∃ x ∈ l, s ∈ g (jnP p x.name) x.node.toNat
  | [], h => by cases h
  | x :: l, h => by
    rw [wkL] at h
    rcases List.mem_append.1 h with h | h
    · exact ⟨x, by simp, h⟩
    · obtain ⟨y, hy, h⟩ := wkL_mem h
      exact ⟨y, by simp [hy], h⟩
theorem last_all {now : Int} {ns : List Nd} (hc : checkP now ns = true) : ∃ r, (szAll ns ⟨0, [], []⟩ (wkP ns eR 33 34 0 rtP 1)).1 = r ++ [((bytesP ns ns.length + lksP ns ns.length : Nat) : Int)] := by
  obtain ⟨a1, _, a0, a2, _, a3, _⟩ := checkP_parts hc
  have hh := hung_check hc
  have hin := in_start hc (n := 1) (by omega) (by omega) (by rw [a2]; decide)
  obtain ⟨inner, hL⟩ : ∃ inner, inner = wkL (wkP ns eR 33 33 1) rtP (lsP ns eR 33 1 0) := ⟨_, rfl⟩
  have hLe : wkP ns eR 33 34 0 rtP 1 = [r0] ++ (inner ++ [⟨rtP, 1, 0, true⟩]) := by
    rw [wkP, if_pos a2, hL]; rfl
  have hgood : ∀ s ∈ inner, s.depth ≠ 0 ∧ ∃ k : Nat, s.node = (k : Int) ∧ 0 < k ∧ k < ns.length ∧ (nd ns k).kind ≠ 0 ∧ (s.after = true → (nd ns k).kind = 2) := fun s hs => by
    refine ⟨?_, ?_⟩
    · rw [hL] at hs
      obtain ⟨x, hx, hs⟩ := wkL_mem hs
      have hi := (hin.child hh a2 (lsP_mem hx)).1
      have := wk_all hh eR 33 (fun _ d _ _ => 1 ≤ d) (fun s => 1 ≤ s.depth) (fun f d p n _ hq => ⟨by show (1 : Int) ≤ (d : Int); omega, fun _ => by show (1 : Int) ≤ (d : Int); omega⟩) (fun f d p n x _ _ _ _ => by show 1 ≤ d + 1; omega) 33 1 (jnP rtP x.name) x.node.toNat hi (Nat.le_refl _) s hs
      omega
    · obtain ⟨k, b1, b2, b3, b4, b5, _⟩ := wk_in hh eR 33 (d := 0) (p := rtP) hin s (by rw [hLe]; simp [hs])
      exact ⟨k, b1, b2, b3, b4, b5⟩
  have hn1 : nodeAt ns 1 = nd ns 1 := by
    unfold nodeAt
    rw [if_neg (by omega)]; rfl
  have hz : ∀ n, sumTo n (fun _ => 0) = 0 := fun n => by
    induction n with
    | zero => rfl
    | succ n ih => rw [sumTo_succ, ih]
  have hs1 : szT ns ⟨0, [], []⟩ r0 = (0, ⟨0, [], [(r0, 0)]⟩) := by
    have hr : nodeAt ns r0.node = nd ns 1 := hn1
    unfold szT
    rw [hr, if_neg (by rw [a2]; decide), if_neg (by rw [a2]; decide), if_neg (by simp [r0])]
    rfl
  have hi1 : Iv ns [r0] ⟨0, [], [(r0, 0)]⟩ := by
    refine ⟨?_, fun z => ?_, ?_⟩
    · have : (sumTo ns.length fun z => if z ∈ ([] : List Nat) then szP (nd ns z) else 0) = 0 := by
        rw [sumTo_eq _ _ (fun _ => 0) (fun i _ => by simp)]; exact hz _
      show (0 : Int) = _
      rw [this]; rfl
    · constructor
      · intro h; cases h
      · rintro ⟨h1, h2⟩
        have : vsL [r0] = [1] := rfl
        rw [this, List.mem_singleton] at h1
        subst h1
        exact absurd a2 h2
    · rw [look, if_pos ((sameS_iff _ _).2 rfl)]
  have hi2 := iv_all inner [r0] _ hgood hi1
  obtain ⟨y, hy⟩ : ∃ y, y = (szAll ns ⟨0, [], [(r0, 0)]⟩ inner).2 := ⟨_, rfl⟩
  rw [← hy] at hi2
  have hs2 : (szT ns y ⟨rtP, 1, 0, true⟩).1 = y.bytes := by
    have hr : nodeAt ns (⟨rtP, 1, 0, true⟩ : Sp).node = nd ns 1 := hn1
    unfold szT
    rw [hr, if_neg (by rw [a2]; decide), if_neg (by rw [a2]; decide), if_pos rfl]
    show endV y ⟨rtP, 1, 0, true⟩ = _
    unfold endV
    have : keyS ⟨rtP, 1, 0, true⟩ = r0 := rfl
    rw [this, hi2.root]
    show y.bytes - 0 = _
    omega
  have hb : y.bytes = ((bytesP ns ns.length + lksP ns ns.length : Nat) : Int) := by
    rw [hi2.bytes, bytes_sum ns _ (Nat.le_refl _)]
    unfold lksP
    rw [← sumTo_add]
    congr 1
    refine sumTo_eq _ _ _ fun z hz => ?_
    have hkp := a3 z hz
    have hzero : (nd ns z).kind = 0 ∨ (nd ns z).kind = 2 → szP (nd ns z) = 0 := fun h => by
      unfold kindP at hkp
      unfold szP
      rcases h with h | h
      · rw [if_pos h] at hkp
        unfold freeP emptyB at hkp
        simp only [Bool.and_eq_true, decide_eq_true_eq] at hkp
        omega
      · rw [if_neg (by rw [h]; decide), if_neg (by rw [h]; decide), if_pos h] at hkp
        unfold dirP emptyB at hkp
        simp only [Bool.and_eq_true, decide_eq_true_eq] at hkp
        omega
    show _ = szP (nd ns z)
    split
    · rfl
    · rename_i hm
      by_cases hk : (nd ns z).kind = 0 ∨ (nd ns z).kind = 2
      · exact (hzero hk).symm
      · exfalso
        refine hm ((hi2.met z).2 ⟨?_, fun h => hk (.inr h)⟩)
        have hz2 : 2 ≤ z := by
          refine Decidable.byContradiction fun h => hk ?_
          by_cases e : z = 0
          · exact .inl (by rw [e]; exact a0)
          · exact .inr (by rw [show z = 1 by omega]; exact a2)
        have h1 := cnt_all hc z
        have h2 := hh.listed z hz2 hz fun h => hk (.inl h)
        have h3 : z ∈ vsL (wkP ns eR 33 34 0 rtP 1) := List.count_pos_iff.1 (by omega)
        rw [hLe, ← List.append_assoc, vsL_app, vsL_after, List.append_nil] at h3
        exact h3
  refine ⟨(0 : Int) :: (szAll ns ⟨0, [], [(r0, 0)]⟩ inner).1, ?_⟩
  rw [hLe, szAll_app, szAll_app]
  have e1 : szAll ns ⟨0, [], []⟩ [r0] = ([0], ⟨0, [], [(r0, 0)]⟩) := by rw [szAll, hs1]; rfl
  rw [e1]
  simp only
  rw [← hy]
  have e2 : (szAll ns y [⟨rtP, 1, 0, true⟩]).1 = [y.bytes] := by rw [szAll, hs2]; rfl
  rw [e2, hb]
  rfl
end Go.Proofs.Ytbajjbgeohbdjaa.Wk
