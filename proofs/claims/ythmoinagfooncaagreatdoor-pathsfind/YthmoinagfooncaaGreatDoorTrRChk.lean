/- What the document's Check asks, in plain words, and that it asks the same as the program's. -/
import Derived.Test.YthmoinagfooncaaGreatDoorTrRAlone
import Derived.Test.YthmoinagfooncaaGreatDoorTrRUp
namespace Go.Proofs.YthmoinagfooncaaGreatDoor.Tr
open Go.RowKit Go.Proofs.YthmoinagfooncaaGreatDoor.Cu

/-- a name of a list, as the document asks -/
def entR (ns : List Nd) (i k : Nat) : Bool := okE (nd ns i).list k && decide (1 < (en (nd ns i).list k).node) && decide ((en (nd ns i).list k).node < (ns.length : Int)) && !decide ((nd ns (en (nd ns i).list k).node.toNat).kind = 0) && (!decide ((nd ns (en (nd ns i).list k).node.toNat).kind = 2) || decide ((nd ns (en (nd ns i).list k).node.toNat).parent = (i : Int)))
def oneR (ns : List Nd) (i : Nat) : Bool := if (nd ns i).kind = 0 then zeroP (nd ns i) else aloneP (nd ns i) && allTo (nd ns i).list.length (entR ns i)
/-- how often one is listed by the first k -/
def cnt (ns : List Nd) (k x : Nat) : Nat := sumTo k fun y => (tg ns y).count x
def twoR (ns : List Nd) (i : Nat) : Bool := if (nd ns i).kind = 0 then true else if (nd ns i).kind = 2 then decide ((nd ns i).links = 2 + (dirsIn ns (nd ns i).list : Int)) && (decide (i ≤ 1) || decide (cnt ns ns.length i = 1)) && decide (0 ≤ upG ns 33 (i : Int) 0) else decide (1 ≤ cnt ns ns.length i) && decide ((nd ns i).links = (cnt ns ns.length i : Int))
def headR (now : Int) (ns : List Nd) : Bool := decide (2 ≤ ns.length) && decide (ns.length ≤ 513) && zeroP (nd ns 0) && decide ((nd ns 1).kind = 2) && decide ((nd ns 1).parent = 1) && decide ((nd ns (ns.length - 1)).kind ≠ 0) && timeP now
def oneS (ns : List Nd) (j : Nat) : Bool := oneR ns (j + 1)
def twoS (ns : List Nd) (j : Nat) : Bool := twoR ns (j + 1)
def rcheckP (now : Int) (ns : List Nd) : Bool := headR now ns && allTo (ns.length - 1) (oneS ns) && limitsP ns && allTo (ns.length - 1) (twoS ns)

theorem zero_parts {n : Nd} (h : zeroP n = true) : n.kind = 0 ∧ freeP n = true ∧ n.data.length = 0 ∧ n.list.length = 0 := by
  simp only [zeroP, Bool.and_eq_true, decide_eq_true_eq] at h
  obtain ⟨hk, hf⟩ := h
  refine ⟨hk, hf, ?_, ?_⟩ <;> (simp only [freeP, noListP, Bool.and_eq_true, decide_eq_true_eq] at hf; omega)
theorem alone_list {n : Nd} (h : aloneP n = true) (hk : n.kind ≠ 2) : n.list.length = 0 := by
  simp only [aloneP, Bool.and_eq_true] at h
  obtain ⟨-, h⟩ := h
  split at h
  · simp only [noListP, Bool.and_eq_true, decide_eq_true_eq] at h; omega
  · split at h
    · simp only [noListP, Bool.and_eq_true, decide_eq_true_eq] at h; omega
    · first | (rw [if_neg hk] at h; cases h) | cases h
theorem tg_none {ns : List Nd} {y : Nat} (h : (nd ns y).list.length = 0) : tg ns y = [] := by
  unfold tg; rw [List.eq_nil_of_length_eq_zero h]; rfl
theorem one_list {ns : List Nd} {y : Nat} (h : oneR ns y = true) (hk : (nd ns y).kind ≠ 2) : tg ns y = [] := by
  unfold oneR at h
  split at h
  · exact tg_none (zero_parts h).2.2.2
  · rw [Bool.and_eq_true] at h
    exact tg_none (alone_list h.1 hk)
theorem sumTo_congr {k : Nat} {f g : Nat → Nat} (h : ∀ i, i < k → f i = g i) : sumTo k f = sumTo k g := by
  induction k with
  | zero => rfl
  | succ k ih => rw [sumTo_succ, sumTo_succ, ih fun i hi => h i (by omega), h k (by omega)]
theorem cnt_times {ns : List Nd} (h : ∀ y, y < ns.length → (nd ns y).kind ≠ 2 → tg ns y = []) (x : Nat) : cnt ns ns.length x = times ns x := by
  unfold cnt times
  refine sumTo_congr fun y hy => ?_
  by_cases hk : (nd ns y).kind = 2
  · rw [if_pos hk]
  · rw [if_neg hk, h y hy hk]; rfl
theorem en_mem {l : List En} {k : Nat} (h : k < l.length) : en l k ∈ l := by
  have : en l k = l[k] := by simp [en, List.getD, h]
  rw [this]; exact List.getElem_mem h
theorem mem_en {l : List En} {e : En} (h : e ∈ l) : ∃ k, k < l.length ∧ e = en l k := by
  obtain ⟨k, hk, rfl⟩ := List.mem_iff_getElem.1 h
  exact ⟨k, hk, by simp [en, List.getD, hk]⟩
theorem kind_of_one {ns : List Nd} {y : Nat} (h : oneR ns y = true) : kindP (nd ns y) = true := by
  unfold oneR at h
  unfold kindP
  by_cases h0 : (nd ns y).kind = 0
  · rw [if_pos h0] at h ⊢; exact (zero_parts h).2.1
  rw [if_neg h0, Bool.and_eq_true] at h
  rw [if_neg h0]
  obtain ⟨ha, he⟩ := h
  unfold aloneP at ha
  rw [Bool.and_eq_true] at ha
  obtain ⟨ho, ha⟩ := ha
  by_cases h1 : (nd ns y).kind = 1
  · rw [if_pos h1] at ha ⊢
    unfold fileP
    simp only [Bool.and_eq_true] at ha ⊢
    exact ⟨⟨⟨ho, ha.1.1⟩, ha.1.2⟩, ha.2⟩
  rw [if_neg h1] at ha ⊢
  by_cases h3 : (nd ns y).kind = 3
  · rw [if_pos h3] at ha
    rw [if_neg (by rw [h3]; decide), if_pos h3]
    unfold linkP
    simp only [Bool.and_eq_true] at ha ⊢
    exact ⟨⟨⟨⟨ho, ha.1.1.1⟩, ha.1.1.2⟩, ha.1.2⟩, ha.2⟩
  rw [if_neg h3] at ha
  by_cases h2 : (nd ns y).kind = 2
  · rw [if_pos h2] at ha ⊢
    unfold dirP listP
    simp only [Bool.and_eq_true] at ha ⊢
    refine ⟨⟨⟨ho, ha.2, ?_⟩, ha.1.1⟩, ha.1.2⟩
    rw [allTo_true] at he ⊢
    intro k hk
    have := he k hk
    simp only [entR, Bool.and_eq_true] at this
    exact this.1.1.1.1
  · rw [if_neg h2] at ha; cases ha
theorem alone_of_kind {n : Nd} (h : kindP n = true) (h0 : n.kind ≠ 0) : aloneP n = true := by
  unfold kindP at h
  rw [if_neg h0] at h
  unfold aloneP
  by_cases h1 : n.kind = 1
  · rw [if_pos h1] at h ⊢
    unfold fileP at h
    simp only [Bool.and_eq_true] at h ⊢
    exact ⟨h.1.1.1, ⟨h.1.1.2, h.1.2⟩, h.2⟩
  rw [if_neg h1] at h ⊢
  by_cases h2 : n.kind = 2
  · rw [if_pos h2] at h
    rw [if_neg (by rw [h2]; decide), if_pos h2]
    unfold dirP listP at h
    simp only [Bool.and_eq_true] at h ⊢
    exact ⟨h.1.1.1, ⟨h.1.2, h.2⟩, h.1.1.2.1⟩
  rw [if_neg h2] at h
  by_cases h3 : n.kind = 3
  · rw [if_pos h3] at h ⊢
    unfold linkP at h
    simp only [Bool.and_eq_true] at h ⊢
    exact ⟨h.1.1.1.1, ⟨⟨h.1.1.1.2, h.1.1.2⟩, h.1.2⟩, h.2⟩
  · rw [if_neg h3] at h; cases h
theorem list_of_kind {n : Nd} (h : kindP n = true) (h2 : n.kind ≠ 2) : n.list.length = 0 := by
  by_cases h0 : n.kind = 0
  · unfold kindP at h
    rw [if_pos h0] at h
    simp only [freeP, noListP, Bool.and_eq_true, decide_eq_true_eq] at h
    omega
  · exact alone_list (alone_of_kind h h0) h2
theorem rcheck_eq (now : Int) (ns : List Nd) : rcheckP now ns = checkP now ns := by
  rw [Bool.eq_iff_iff]
  constructor
  · intro h
    simp only [rcheckP, headR, Bool.and_eq_true, decide_eq_true_eq] at h
    obtain ⟨⟨⟨⟨⟨⟨⟨⟨⟨h2, h513⟩, hz⟩, hk1⟩, hp1⟩, hlast⟩, htime⟩, hone⟩, hlim⟩, htwo⟩ := h
    have hz' := zero_parts hz
    have one : ∀ y, 1 ≤ y → y < ns.length → oneR ns y = true := fun y h1 hy => by
      have := allTo_true.1 hone (y - 1) (by omega)
      unfold oneS at this
      rw [show y - 1 + 1 = y by omega] at this
      exact this
    have two : ∀ y, 1 ≤ y → y < ns.length → twoR ns y = true := fun y h1 hy => by
      have := allTo_true.1 htwo (y - 1) (by omega)
      unfold twoS at this
      rw [show y - 1 + 1 = y by omega] at this
      exact this
    have ht : ∀ y, y < ns.length → (nd ns y).kind ≠ 2 → tg ns y = [] := fun y hy hk => by
      by_cases h0 : y = 0
      · subst h0; exact tg_none hz'.2.2.2
      · exact one_list (one y (by omega) hy) hk
    have hc := cnt_times ht
    have hung : Hung ns := by
      refine ⟨fun d hd hk => ?_, fun x hx1 hx2 hk => ?_, fun x hx1 hx2 hk => ?_, fun x hx1 hx2 hk0 hk2 => ?_⟩
      · have hd1 : 1 ≤ d := by
          by_cases h0 : d = 0
          · subst h0; rw [hz'.1] at hk; exact absurd hk (by decide)
          · omega
        have h1 := one d hd1 hd
        have h2 := two d hd1 hd
        unfold oneR at h1
        unfold twoR at h2
        have hk0 : (nd ns d).kind ≠ 0 := by rw [hk]; decide
        rw [if_neg hk0, Bool.and_eq_true] at h1
        rw [if_neg hk0, if_pos hk] at h2
        simp only [Bool.and_eq_true, decide_eq_true_eq] at h2
        refine ⟨⟨fun e he => ?_, h2.1.1⟩, up_iff.1 h2.2⟩
        obtain ⟨k, hk, rfl⟩ := mem_en he
        have h3 := allTo_true.1 h1.2 k hk
        simp only [entR, Bool.and_eq_true, Bool.or_eq_true, decide_eq_true_eq, Bool.not_eq_true', decide_eq_false_iff_not] at h3
        exact ⟨h3.1.1.1.2, h3.1.1.2, h3.1.2, fun h => h3.2.resolve_left fun g => g h⟩
      · have h2 := two x (by omega) hx2
        unfold twoR at h2
        rw [if_neg hk] at h2
        rw [← hc x]
        by_cases h : (nd ns x).kind = 2
        · rw [if_pos h] at h2
          simp only [Bool.and_eq_true, Bool.or_eq_true, decide_eq_true_eq] at h2
          have := h2.1.2.resolve_left (by omega)
          omega
        · rw [if_neg h] at h2
          simp only [Bool.and_eq_true, decide_eq_true_eq] at h2
          exact h2.1
      · have h2 := two x (by omega) hx2
        unfold twoR at h2
        rw [if_neg (by rw [hk]; decide), if_pos hk] at h2
        rw [← hc x]
        simp only [Bool.and_eq_true, Bool.or_eq_true, decide_eq_true_eq] at h2
        exact h2.1.2.resolve_left (by omega)
      · have h2 := two x (by omega) hx2
        unfold twoR at h2
        rw [if_neg hk0, if_neg hk2] at h2
        rw [← hc x]
        simp only [Bool.and_eq_true, decide_eq_true_eq] at h2
        exact h2.2
    have hhang := hangs_of (by omega) hz'.1 hk1 hung
    simp only [checkP, rootP, Bool.and_eq_true, decide_eq_true_eq]
    refine ⟨⟨⟨⟨htime, ⟨⟨⟨⟨h2, h513⟩, hz'.1⟩, hk1⟩, hp1⟩, hlast⟩, hlim⟩, ?_⟩, hhang⟩
    unfold nodesP
    rw [allTo_true]
    intro y hy
    unfold nodeOk
    by_cases h0 : y = 0
    · subst h0; unfold kindP; rw [if_pos hz'.1]; exact hz'.2.1
    · exact kind_of_one (one y (by omega) hy)
  · intro h
    have hung := hung_check h
    simp only [checkP, rootP, Bool.and_eq_true, decide_eq_true_eq] at h
    obtain ⟨⟨⟨⟨htime, ⟨⟨⟨⟨h2, h513⟩, hk0⟩, hk1⟩, hp1⟩, hlast⟩, hlim⟩, hnodes⟩, hhang⟩ := h
    have kind : ∀ y, y < ns.length → kindP (nd ns y) = true := fun y hy => by
      unfold nodesP at hnodes
      exact allTo_true.1 hnodes y hy
    have ht : ∀ y, y < ns.length → (nd ns y).kind ≠ 2 → tg ns y = [] := fun y hy hk => tg_none (list_of_kind (kind y hy) hk)
    have hc := cnt_times ht
    have free : ∀ y, y < ns.length → (nd ns y).kind = 0 → zeroP (nd ns y) = true := fun y hy h0 => by
      have := kind y hy
      unfold kindP at this
      rw [if_pos h0] at this
      simp [zeroP, h0, this]
    simp only [rcheckP, headR, Bool.and_eq_true, decide_eq_true_eq]
    refine ⟨⟨⟨⟨⟨⟨⟨⟨⟨h2, h513⟩, free 0 (by omega) hk0⟩, hk1⟩, hp1⟩, hlast⟩, htime⟩, ?_⟩, hlim⟩, ?_⟩
    · rw [allTo_true]
      intro j hj
      unfold oneS oneR
      by_cases h0 : (nd ns (j + 1)).kind = 0
      · rw [if_pos h0]; exact free _ (by omega) h0
      · rw [if_neg h0, Bool.and_eq_true]
        have hkp := kind (j + 1) (by omega)
        refine ⟨alone_of_kind hkp h0, ?_⟩
        rw [allTo_true]
        intro k hk
        by_cases hd : (nd ns (j + 1)).kind = 2
        · have g := (hung.good (j + 1) (by omega) hd).1.1 _ (en_mem hk)
          unfold kindP at hkp
          rw [if_neg h0, if_neg (by rw [hd]; decide), if_pos hd] at hkp
          simp only [dirP, listP, Bool.and_eq_true] at hkp
          have ho := allTo_true.1 hkp.1.1.2.2 k hk
          simp only [entR, Bool.and_eq_true, Bool.or_eq_true, decide_eq_true_eq, Bool.not_eq_true', decide_eq_false_iff_not]
          refine ⟨⟨⟨⟨ho, g.1⟩, g.2.1⟩, g.2.2.1⟩, ?_⟩
          by_cases hq : (nd ns (en (nd ns (j + 1)).list k).node.toNat).kind = 2
          · exact .inr (g.2.2.2 hq)
          · exact .inl hq
        · have := list_of_kind hkp hd
          omega
    · rw [allTo_true]
      intro j hj
      unfold twoS twoR
      by_cases h0 : (nd ns (j + 1)).kind = 0
      · rw [if_pos h0]
      · rw [if_neg h0]
        by_cases hd : (nd ns (j + 1)).kind = 2
        · rw [if_pos hd]
          have g := hung.good (j + 1) (by omega) hd
          simp only [Bool.and_eq_true, Bool.or_eq_true, decide_eq_true_eq]
          refine ⟨⟨g.1.2, ?_⟩, up_iff.2 g.2⟩
          by_cases hj1 : j + 1 ≤ 1
          · exact .inl hj1
          · exact .inr (by rw [hc]; exact hung.once _ (by omega) (by omega) hd)
        · rw [if_neg hd]
          have hj1 : 2 ≤ j + 1 := by
            by_cases e : j = 0
            · subst e; exact absurd hk1 hd
            · omega
          simp only [Bool.and_eq_true, decide_eq_true_eq]
          rw [hc]
          exact ⟨hung.listed _ hj1 (by omega) h0, hung.links _ hj1 (by omega) h0 hd⟩
end Go.Proofs.YthmoinagfooncaaGreatDoor.Tr
