import Derived.Test.YtidhceebafmlkaaGreatDoorCaPlain
import Derived.Test.YtidhceebafmlkaaGreatDoorCaStore
import Derived.Test.YtidhceebafmlkaaGreatDoorTrHung
namespace Go.Proofs.YtidhceebafmlkaaGreatDoor.Ca
open Go.RowKit Cu Tr
theorem bs_tri : ∀ a b : Bs, a < b ∨ a = b ∨ b < a
  | [], [] => .inr (.inl rfl)
  | [], _ :: _ => .inl (by simp)
  | _ :: _, [] => .inr (.inr (by simp))
  | a :: s, b :: t => by
    rw [List.cons_lt_cons_iff, List.cons_lt_cons_iff]
    rcases Nat.lt_trichotomy a.toNat b.toNat with h | h | h
    · exact .inl (.inl (UInt8.lt_iff_toNat_lt.2 h))
    · have e : a = b := UInt8.toNat_inj.1 h
      subst e
      rcases bs_tri s t with h | h | h
      · exact .inl (.inr ⟨rfl, h⟩)
      · exact .inr (.inl (by rw [h]))
      · exact .inr (.inr (.inr ⟨rfl, h⟩))
    · exact .inr (.inr (.inl (UInt8.lt_iff_toNat_lt.2 h)))
theorem bs_eq {a b : ByteArray} (h : bs a = bs b) : a = b := by
  cases a with | mk a => cases b with | mk b =>
  have : a.toList = b.toList := h
  rw [Array.toList_inj.1 this]
abbrev ltN (a b : En) : Prop := bs a.name < bs b.name
theorem en_getK {l : List En} {i : Nat} (h : i < l.length) : en l i = l[i] := by simp [en, List.getD, List.getElem?_eq_getElem h]
theorem rises_pw {l : List En} : Rises l ↔ l.Pairwise ltN := by
  rw [List.pairwise_iff_getElem]
  constructor
  · intro h i j hi hj hij
    have := h i j hij hj
    rwa [en_getK hi, en_getK hj] at this
  · intro h i j hij hj
    rw [en_getK (show i < l.length by omega), en_getK hj]
    exact h i j _ _ hij
theorem listP_iff {l : List En} : listP l = true ↔ l.length ≤ 512 ∧ (∀ e ∈ l, nameP e.name = true) ∧ l.Pairwise ltN := by
  constructor
  · intro h
    refine ⟨?_, ?_, rises_pw.1 (rises_of h)⟩
    · unfold listP at h
      simp only [Bool.and_eq_true, decide_eq_true_eq] at h
      exact h.1
    · intro e he
      obtain ⟨i, hi, rfl⟩ := List.getElem_of_mem he
      unfold listP at h
      simp only [Bool.and_eq_true, decide_eq_true_eq] at h
      have := allTo_true.1 h.2 i hi
      unfold okE at this
      simp only [Bool.and_eq_true] at this
      rw [← en_getK hi]; exact this.1
  · rintro ⟨h1, h2, h3⟩
    unfold listP
    simp only [Bool.and_eq_true, decide_eq_true_eq]
    refine ⟨h1, allTo_true.2 fun i hi => ?_⟩
    unfold okE
    simp only [Bool.and_eq_true, Bool.or_eq_true, decide_eq_true_eq]
    refine ⟨by rw [en_getK hi]; exact h2 _ (List.getElem_mem _), ?_⟩
    by_cases h0 : i = 0
    · exact .inl h0
    · exact .inr ((ltB_iff _ _).2 (rises_pw.2 h3 (i - 1) i (by omega) hi))
theorem pos_take (es : List En) (s : ByteArray) : es.take (posE es s) = es.takeWhile fun e => ltB e.name s := by
  unfold posE
  induction es with
  | nil => rfl
  | cons x l ih =>
    rw [List.takeWhile_cons]
    split
    · rw [List.length_cons, List.take_succ_cons, ih]
    · rfl
theorem mem_tw {p : En → Bool} {x : En} : ∀ {l : List En}, x ∈ l.takeWhile p → p x = true
  | [], h => absurd h (by simp)
  | y :: l, h => by
    rw [List.takeWhile_cons] at h
    split at h
    · rcases List.mem_cons.1 h with rfl | h
      · assumption
      · exact mem_tw h
    · simp at h
theorem pos_le (es : List En) (s : ByteArray) : posE es s ≤ es.length := by
  unfold posE
  induction es with
  | nil => exact Nat.zero_le _
  | cons x l ih =>
    rw [List.takeWhile_cons]
    split
    · simp only [List.length_cons]; omega
    · exact Nat.zero_le _
theorem pos_drop {es : List En} (h : es.Pairwise ltN) {s : ByteArray} (hs : ∀ e ∈ es, e.name ≠ s) : ∀ e ∈ es.drop (posE es s), bs s < bs e.name := by
  unfold posE
  induction es with
  | nil => simp
  | cons x l ih =>
    rw [List.pairwise_cons] at h
    rw [List.takeWhile_cons]
    split
    · rw [List.length_cons, List.drop_succ_cons]
      exact ih h.2 fun e he => hs e (List.mem_cons_of_mem _ he)
    · rename_i hx
      have hx2 : bs s < bs x.name := by
        rcases bs_tri (bs s) (bs x.name) with q | q | q
        · exact q
        · exact absurd (bs_eq q).symm (hs x (List.mem_cons_self ..))
        · exact absurd ((ltB_iff _ _).2 q) hx
      intro e he
      rw [List.length_nil, List.drop_zero] at he
      rcases List.mem_cons.1 he with rfl | he
      · exact hx2
      · exact bs_lt_trans hx2 (h.1 e he)
theorem ins_perm (es : List En) (i : Nat) (e : En) : (insE es i e).Perm (e :: es) := by
  unfold insE
  exact List.perm_middle.trans (List.Perm.cons _ (by rw [List.take_append_drop]))
theorem ins_list {es : List En} (h : listP es = true) {s : ByteArray} (hs : ∀ e ∈ es, e.name ≠ s) (hn : nameP s = true) (hl : es.length < 512) (m : Int) : listP (insE es (posE es s) ⟨s, m⟩) = true := by
  obtain ⟨_, h2, h3⟩ := listP_iff.1 h
  refine listP_iff.2 ⟨?_, ?_, ?_⟩
  · rw [insE_length _ _ _ (pos_le _ _)]; omega
  · intro e he
    rcases List.mem_cons.1 ((ins_perm _ _ _).mem_iff.1 he) with rfl | he
    · exact hn
    · exact h2 e he
  · unfold insE
    have hsub := h3
    rw [← List.take_append_drop (posE es s) es, List.pairwise_append] at hsub
    rw [List.pairwise_append]
    refine ⟨hsub.1, ?_, ?_⟩
    · rw [List.pairwise_cons]
      exact ⟨fun e he => pos_drop h3 hs e he, hsub.2.1⟩
    · intro a ha b hb
      have hlt : ltN a ⟨s, m⟩ := by
        rw [pos_take] at ha
        exact (ltB_iff _ _).1 (mem_tw (p := fun e => ltB e.name s) ha)
      rcases List.mem_cons.1 hb with rfl | hb
      · exact hlt
      · exact hsub.2.2 a ha b hb
theorem del_subl (es : List En) (k : Nat) : (delE es k).Sublist es := by
  unfold delE
  conv => rhs; rw [← List.take_append_drop k es]
  exact List.Sublist.append (List.Sublist.refl _) (by rw [← List.drop_drop]; exact List.drop_sublist _ _)
theorem del_perm {es : List En} {k : Nat} (hk : k < es.length) : es.Perm (en es k :: delE es k) := by
  unfold delE
  conv => lhs; rw [← List.take_append_drop k es, List.drop_eq_getElem_cons hk]
  rw [en_getK hk]
  exact List.perm_middle
theorem del_list {es : List En} (h : listP es = true) (k : Nat) : listP (delE es k) = true := by
  obtain ⟨h1, h2, h3⟩ := listP_iff.1 h
  have hs := del_subl es k
  exact listP_iff.2 ⟨Nat.le_trans hs.length_le h1, fun e he => h2 e (hs.subset he), h3.sublist hs⟩
theorem pos_at {es : List En} (h : es.Pairwise ltN) {k : Nat} (hk : k < es.length) : posE es (en es k).name = k :=
  pos_is es _ k (by omega) (fun j hj => rises_pw.2 h j k hj hk) (fun _ q => List.lt_irrefl _ q)
theorem find_node {es : List En} (h : es.Pairwise ltN) {e : En} (he : e ∈ es) : findP es e.name = e.node := by
  obtain ⟨i, hi, rfl⟩ := List.getElem_of_mem he
  rw [← en_getK hi]
  exact find_at (rises_pw.2 h) i hi rfl
theorem find_none {es : List En} {t : ByteArray} (h : ∀ e ∈ es, e.name ≠ t) : findP es t = 0 :=
  find_no fun k hk => by rw [en_getK hk]; exact h _ (List.getElem_mem _)
theorem find_some {es : List En} {t : ByteArray} (h : findP es t ≠ 0) : ∃ e ∈ es, e.name = t ∧ e.node = findP es t := by
  unfold findP at h ⊢
  cases q : es.find? (fun e => decide (e.name = t)) with
  | none => rw [q] at h; exact absurd rfl h
  | some e => exact ⟨e, List.mem_of_find?_eq_some q, by simpa using List.find?_some q, rfl⟩
theorem found {es : List En} (h : es.Pairwise ltN) {s : ByteArray} {m : Int} (hm : findP es s = m) (h0 : m ≠ 0) :
    posE es s < es.length ∧ en es (posE es s) = ⟨s, m⟩ ∧ hasE es s = true := by
  obtain ⟨e, he, h1, h2⟩ := find_some (es := es) (t := s) (by rw [hm]; exact h0)
  obtain ⟨i, hi, rfl⟩ := List.getElem_of_mem he
  have e1 : posE es s = i := by rw [← h1, ← en_getK hi]; exact pos_at h hi
  have e2 : en es i = ⟨s, m⟩ := by
    rw [en_getK hi]
    have : es[i] = ⟨es[i].name, es[i].node⟩ := rfl
    rw [this, h1, h2, hm]
  refine ⟨by omega, by rw [e1]; exact e2, ?_⟩
  unfold hasE
  rw [e1, e2]
  simp [hi]
theorem none_named {es : List En} (h : ∀ e ∈ es, e.node ≠ 0) {s : ByteArray} (hf : findP es s = 0) : ∀ e ∈ es, e.name ≠ s := by
  intro e he hs
  unfold findP at hf
  cases q : es.find? (fun e => decide (e.name = s)) with
  | none => exact absurd (by simpa using List.find?_eq_none.1 q e he) (by rw [hs]; simp)
  | some x => rw [q] at hf; exact h x (List.mem_of_find?_eq_some q) hf
theorem find_ins {es : List En} (h : listP es = true) {s : ByteArray} (hs : ∀ e ∈ es, e.name ≠ s) (hn : nameP s = true) (hl : es.length < 512) (m : Int) (t : ByteArray) : findP (insE es (posE es s) ⟨s, m⟩) t = if t = s then m else findP es t := by
  have hp := (listP_iff.1 (ins_list h hs hn hl m)).2.2
  have hm : ∀ e, e ∈ insE es (posE es s) ⟨s, m⟩ ↔ e = ⟨s, m⟩ ∨ e ∈ es := fun e => by rw [(ins_perm _ _ _).mem_iff, List.mem_cons]
  split
  · rename_i e; subst e
    exact find_node hp ((hm ⟨t, m⟩).2 (.inl rfl))
  · rename_i hne
    by_cases h0 : ∀ e ∈ es, e.name ≠ t
    · rw [find_none h0, find_none]
      intro e he
      rcases (hm e).1 he with rfl | he
      · exact fun q => hne q.symm
      · exact h0 e he
    · obtain ⟨e, he, rfl⟩ : ∃ e ∈ es, e.name = t := by
        refine Decidable.byContradiction fun q => h0 fun e he ht => q ⟨e, he, ht⟩
      rw [find_node (listP_iff.1 h).2.2 he, find_node hp ((hm e).2 (.inr he))]
theorem find_del {es : List En} (h : listP es = true) {s : ByteArray} {m : Int} (hm : findP es s = m) (h0 : m ≠ 0) (t : ByteArray) : findP (delE es (posE es s)) t = if t = s then 0 else findP es t := by
  obtain ⟨h1, h2, -⟩ := found (listP_iff.1 h).2.2 hm h0
  have hp := (listP_iff.1 (del_list h (posE es s))).2.2
  have hpe := del_perm h1
  rw [h2] at hpe
  have hpw : (⟨s, m⟩ :: delE es (posE es s)).Pairwise fun a b : En => a.name ≠ b.name := by
    refine (hpe.pairwise_iff (fun q => Ne.symm q)).1 ((listP_iff.1 h).2.2.imp fun q e => ?_)
    unfold ltN at q
    rw [e] at q
    exact List.lt_irrefl _ q
  have hns : ∀ e ∈ delE es (posE es s), e.name ≠ s := fun e he q => (List.pairwise_cons.1 hpw).1 e he q.symm
  have hmm : ∀ e, e ∈ es ↔ e = ⟨s, m⟩ ∨ e ∈ delE es (posE es s) := fun e => by rw [hpe.mem_iff, List.mem_cons]
  split
  · rename_i e; subst e
    exact find_none hns
  · rename_i hne
    by_cases h0 : ∀ e ∈ es, e.name ≠ t
    · rw [find_none h0, find_none]
      exact fun e he => h0 e ((hmm e).2 (.inr he))
    · obtain ⟨e, he, rfl⟩ : ∃ e ∈ es, e.name = t := by
        refine Decidable.byContradiction fun q => h0 fun e he ht => q ⟨e, he, ht⟩
      rcases (hmm e).1 he with rfl | he2
      · exact absurd rfl hne
      · rw [find_node (listP_iff.1 h).2.2 he, find_node hp he2]
theorem nd_set (ns : List Nd) (i : Nat) (x : Nd) (j : Nat) : nd (ns.set i x) j = if j = i ∧ i < ns.length then x else nd ns j := by
  unfold nd
  simp only [List.getD, List.getElem?_set]
  by_cases e : i = j
  · subst e
    by_cases h : i < ns.length
    · simp [h]
    · simp [h]
  · rw [if_neg e, if_neg (fun h => e h.1.symm)]
theorem nd_updK (ns : List Nd) (i : Nat) (f : Nd → Nd) (j : Nat) : nd (upd ns i f) j = if j = i ∧ i < ns.length then f (nd ns i) else nd ns j := nd_set _ _ _ _
theorem upd_lenK (ns : List Nd) (i : Nat) (f : Nd → Nd) : (upd ns i f).length = ns.length := by simp [upd]
theorem nd_takeK (ns : List Nd) (k j : Nat) : nd (ns.take k) j = if j < k then nd ns j else nz := by
  unfold nd
  simp only [List.getD, List.getElem?_take]
  split <;> simp_all
theorem nd_none (ns : List Nd) (j : Nat) (h : ns.length ≤ j) : nd ns j = nz := nd_out' ns j h
end Go.Proofs.YtidhceebafmlkaaGreatDoor.Ca

namespace Go.Proofs.YtidhceebafmlkaaGreatDoor.Ca
open Go.RowKit Cu Tr
theorem free_nz {n : Nd} (h : kindP n = true) (h0 : n.kind = 0) : n = nz := by
  unfold kindP at h
  rw [if_pos h0] at h
  unfold freeP emptyB noListP at h
  simp only [Bool.and_eq_true, decide_eq_true_eq] at h
  obtain ⟨kd, md, us, gr, lk, ti, dt, tg, ls, pa⟩ := n
  simp only at h h0
  obtain ⟨⟨⟨⟨⟨⟨⟨a, b⟩, c⟩, d⟩, e⟩, f⟩, g⟩, i, j⟩ := h
  have e1 : dt = [] := List.eq_nil_of_length_eq_zero f
  have e2 : ls = [] := List.eq_nil_of_length_eq_zero i
  have e3 : tg = ⟨#[]⟩ := by
    cases tg with | mk x =>
    have : x.size = 0 := g
    rw [Array.eq_empty_of_size_eq_zero this]
  subst h0 a b c d e e1 e2 e3 j
  rfl
theorem upd2 (ns : List Nd) (i : Nat) (f g : Nd → Nd) : upd (upd ns i f) i g = upd ns i fun x => g (f x) := by
  by_cases h : i < ns.length
  · unfold upd
    rw [nd_set, if_pos ⟨rfl, h⟩, List.set_set]
  · unfold upd
    rw [List.set_eq_of_length_le (by simp; omega), List.set_eq_of_length_le (by omega), List.set_eq_of_length_le (by omega)]
theorem listD_lenK (now : Int) (ns : List Nd) (d : Nat) (s : ByteArray) (m : Nat) : (listD now ns d s m).length = ns.length := by
  unfold listD
  simp only
  split <;> simp only [upd_lenK]
theorem nd_listD (now : Int) (ns : List Nd) (d : Nat) (s : ByteArray) (m : Nat) (hd : d < ns.length) (hm : m < ns.length) (hne : d ≠ m) (j : Nat) :
    nd (listD now ns d s m) j = if j = d then { nd ns d with list := insE (nd ns d).list (posE (nd ns d).list s) ⟨s, (m : Int)⟩, time := now, links := (nd ns d).links + if (nd ns m).kind = 2 then 1 else 0 } else if j = m ∧ (nd ns m).kind = 2 then { nd ns m with parent := (d : Int) } else nd ns j := by
  unfold listD
  simp only
  rw [upd2]
  obtain ⟨n1, hn1⟩ : ∃ n1, n1 = upd ns d fun x => { x with list := insE x.list (posE x.list s) ⟨s, (m : Int)⟩, time := now } := ⟨_, rfl⟩
  rw [← hn1]
  have hl : n1.length = ns.length := by rw [hn1, upd_lenK]
  have hq : ∀ j, nd n1 j = if j = d then { nd ns d with list := insE (nd ns d).list (posE (nd ns d).list s) ⟨s, (m : Int)⟩, time := now } else nd ns j := by
    intro j
    rw [hn1, nd_updK]
    by_cases e : j = d
    · rw [if_pos ⟨e, hd⟩, if_pos e]
    · rw [if_neg (fun q => e q.1), if_neg e]
  have e1 : nd n1 m = nd ns m := by rw [hq, if_neg (fun q => hne q.symm)]
  rw [e1]
  by_cases hk : (nd ns m).kind = 2
  · rw [if_pos hk, if_pos hk, nd_updK, upd_lenK, hl]
    by_cases e : j = d
    · rw [if_pos ⟨e, hd⟩, if_pos e, nd_updK, if_neg (fun q => hne q.1), hq, if_pos rfl]
    · rw [if_neg (fun q => e q.1), if_neg e, nd_updK, hl, e1]
      by_cases e2 : j = m
      · rw [if_pos ⟨e2, hm⟩, if_pos ⟨e2, hk⟩]
      · rw [if_neg (fun q => e2 q.1), if_neg (fun q => e2 q.1), hq, if_neg e]
  · rw [if_neg hk, if_neg hk, hq]
    by_cases e : j = d
    · rw [if_pos e, if_pos e, Int.add_zero]
    · rw [if_neg e, if_neg e, if_neg (fun q => hk q.2)]
theorem unlistD_len (now : Int) (ns : List Nd) (d : Nat) (s : ByteArray) (m : Nat) : (unlistD now ns d s m).length = ns.length := by
  unfold unlistD
  simp only
  split <;> simp only [upd_lenK]
theorem nd_unlistD (now : Int) (ns : List Nd) (d : Nat) (s : ByteArray) (m : Nat) (hd : d < ns.length) (j : Nat) :
    nd (unlistD now ns d s m) j = if j = d then { nd ns d with list := if hasE (nd ns d).list s then delE (nd ns d).list (posE (nd ns d).list s) else (nd ns d).list, time := now, links := (nd ns d).links - if (nd ns m).kind = 2 then 1 else 0 } else nd ns j := by
  unfold unlistD
  simp only
  rw [upd2]
  obtain ⟨n1, hn1⟩ : ∃ n1, n1 = upd ns d fun x => { x with list := if hasE x.list s then delE x.list (posE x.list s) else x.list, time := now } := ⟨_, rfl⟩
  rw [← hn1]
  have hl : n1.length = ns.length := by rw [hn1, upd_lenK]
  have hq : ∀ j, nd n1 j = if j = d then { nd ns d with list := if hasE (nd ns d).list s then delE (nd ns d).list (posE (nd ns d).list s) else (nd ns d).list, time := now } else nd ns j := by
    intro j
    rw [hn1, nd_updK]
    by_cases e : j = d
    · rw [if_pos ⟨e, hd⟩, if_pos e]
    · rw [if_neg (fun q => e q.1), if_neg e]
  have e1 : (nd n1 m).kind = (nd ns m).kind := by
    rw [hq]
    by_cases e : m = d
    · rw [if_pos e, e]
    · rw [if_neg e]
  rw [e1]
  by_cases hk : (nd ns m).kind = 2
  · rw [if_pos hk, if_pos hk, nd_updK, hl]
    by_cases e : j = d
    · rw [if_pos ⟨e, hd⟩, if_pos e, hq, if_pos rfl]
    · rw [if_neg (fun q => e q.1), if_neg e, hq, if_neg e]
  · rw [if_neg hk, if_neg hk, hq]
    by_cases e : j = d
    · rw [if_pos e, if_pos e, Int.sub_zero]
    · rw [if_neg e, if_neg e]
theorem lastAt_le (ns : List Nd) : ∀ k, lastAt ns k ≤ k
  | 0 => Nat.le_refl _
  | k + 1 => by
    unfold lastAt
    split
    · have := lastAt_le ns k; omega
    · exact Nat.le_refl _
theorem lastAt_one (ns : List Nd) : ∀ k, 1 ≤ k → 1 ≤ lastAt ns k
  | 0, h => by omega
  | k + 1, _ => by
    unfold lastAt
    split
    · exact lastAt_one ns k (by omega)
    · omega
theorem lastAt_free (ns : List Nd) : ∀ k j, lastAt ns k < j → j ≤ k → (nd ns j).kind = 0
  | 0, j, h, h2 => by unfold lastAt at h; omega
  | k + 1, j, h, h2 => by
    unfold lastAt at h
    split at h
    · rename_i q
      by_cases e : j = k + 1
      · rw [e]; exact q.2
      · exact lastAt_free ns k j h (by omega)
    · omega
theorem lastAt_is (ns : List Nd) : ∀ k, 1 ≤ k → lastAt ns k = 1 ∨ (nd ns (lastAt ns k)).kind ≠ 0
  | 0, h => by omega
  | k + 1, _ => by
    unfold lastAt
    split
    · rename_i q; exact lastAt_is ns k (by omega)
    · rename_i q
      by_cases e : k = 0
      · subst e; exact .inl rfl
      · exact .inr fun h => q ⟨by omega, h⟩
def lost (n : Nd) : Nd := if 0 < n.links - 1 ∧ n.kind ≠ 2 then { n with links := n.links - 1 } else nz
theorem loseD_is (ns : List Nd) (m : Nat) (hm : m < ns.length) (h1 : 1 < m) (hf : ∀ i, i < ns.length → (nd ns i).kind = 0 → nd ns i = nz) :
    (∀ j, nd (loseD ns m) j = if j = m then lost (nd ns m) else nd ns j) ∧ 2 ≤ (loseD ns m).length ∧ (loseD ns m).length ≤ ns.length ∧ ((nd ns 1).kind ≠ 0 → (nd ns (ns.length - 1)).kind ≠ 0 → (nd (loseD ns m) ((loseD ns m).length - 1)).kind ≠ 0) := by
  have e1 : nd (upd ns m fun x => { x with links := x.links - 1 }) m = { nd ns m with links := (nd ns m).links - 1 } := by rw [nd_updK, if_pos ⟨rfl, hm⟩]
  unfold loseD
  simp only
  rw [e1]
  by_cases hk : 0 < (nd ns m).links - 1 ∧ (nd ns m).kind ≠ 2
  · rw [if_pos hk]
    refine ⟨fun j => ?_, by rw [upd_lenK]; omega, by rw [upd_lenK]; omega, fun _ h => ?_⟩
    · rw [nd_updK]
      unfold lost
      rw [if_pos hk]
      by_cases e : j = m
      · subst e; rw [if_pos ⟨rfl, hm⟩, if_pos rfl]
      · rw [if_neg (fun q => e q.1), if_neg e]
    · rw [upd_lenK, nd_updK]
      split
      · rename_i q; rw [← q.1]; exact h
      · exact h
  · rw [if_neg hk]
    obtain ⟨n2, hn2⟩ : ∃ n2, n2 = (upd ns m fun x => { x with links := x.links - 1 }).set m nz := ⟨_, rfl⟩
    rw [← hn2]
    have hl2 : n2.length = ns.length := by rw [hn2, List.length_set, upd_lenK]
    have hnd : ∀ j, nd n2 j = if j = m then nz else nd ns j := by
      intro j
      rw [hn2, nd_set, upd_lenK, nd_updK]
      by_cases e : j = m
      · subst e; rw [if_pos ⟨rfl, hm⟩, if_pos rfl]
      · rw [if_neg (fun q => e q.1), if_neg (fun q => e q.1), if_neg e]
    obtain ⟨L, hL⟩ : ∃ L, L = lastAt n2 (n2.length - 1) := ⟨_, rfl⟩
    rw [← hL]
    have hL1 : L ≤ n2.length - 1 := by rw [hL]; exact lastAt_le _ _
    have hL2 : 1 ≤ L := by rw [hL]; exact lastAt_one _ _ (by omega)
    have hfree : ∀ j, L < j → j < ns.length → nd n2 j = nz := by
      intro j hj hjl
      have hz : (nd n2 j).kind = 0 := lastAt_free n2 (n2.length - 1) j (by rw [← hL]; exact hj) (by omega)
      rw [hnd] at hz ⊢
      split at hz
      · rw [if_pos ‹_›]
      · rw [if_neg ‹_›]; exact hf j hjl hz
    refine ⟨fun j => ?_, by rw [List.length_take]; omega, by rw [List.length_take]; omega, fun h1k _ => ?_⟩
    · rw [nd_takeK]
      unfold lost
      rw [if_neg hk, ← hnd]
      split
      · rfl
      · by_cases hjl : j < ns.length
        · exact (hfree j (by omega) hjl).symm
        · rw [nd_none _ _ (by omega)]
    · rw [List.length_take, show min (L + 1) n2.length - 1 = L by omega, nd_takeK, if_pos (by omega)]
      rcases lastAt_is n2 (n2.length - 1) (by omega) with q | q
      · rw [hL, q, hnd, if_neg (by omega)]; exact h1k
      · rw [hL]; exact q
theorem sum_map (f : Nd → Nat) : ∀ ns : List Nd, (ns.map f).sum = sumTo ns.length fun i => f (nd ns i)
  | [] => rfl
  | x :: ns => by
    rw [List.map_cons, List.sum_cons, List.length_cons, sum_map f ns]
    unfold sumTo
    rw [List.range_succ_eq_map, List.map_cons, List.sum_cons, List.map_map]
    rfl
theorem sumTo_more (g : Nat → Nat) (n : Nat) : ∀ k, (∀ i, n ≤ i → g i = 0) → sumTo (n + k) g = sumTo n g
  | 0, _ => rfl
  | k + 1, h => by rw [← Nat.add_assoc, sumTo_succ, sumTo_more g n k h, h (n + k) (by omega)]; rfl
theorem sum_to (f : Nd → Nat) (h0 : f nz = 0) (ns : List Nd) (N : Nat) (h : ns.length ≤ N) : (ns.map f).sum = sumTo N fun i => f (nd ns i) := by
  rw [sum_map]
  obtain ⟨k, rfl⟩ : ∃ k, N = ns.length + k := ⟨N - ns.length, by omega⟩
  rw [sumTo_more _ _ _ fun i hi => by rw [nd_none _ _ hi]; exact h0]
theorem bytes_to (ns : List Nd) (N : Nat) (h : ns.length ≤ N) : bytesP ns ns.length = sumTo N fun i => (nd ns i).data.length := by
  unfold bytesP
  rw [List.take_length, sum_to (fun n => n.data.length) rfl ns N h]
theorem names_to (ns : List Nd) (N : Nat) (h : ns.length ≤ N) : namesP ns ns.length = sumTo N fun i => (nd ns i).list.length := by
  unfold namesP
  rw [List.take_length, sum_to (fun n => n.list.length) rfl ns N h]
theorem bytes_change {ns ms : List Nd} (i : Nat) (h : ∀ j, j ≠ i → (nd ms j).data.length = (nd ns j).data.length) : bytesP ms ms.length + (nd ns i).data.length = bytesP ns ns.length + (nd ms i).data.length := by
  have a := bytes_to ms (ms.length + ns.length + i + 1) (by omega)
  have b := bytes_to ns (ms.length + ns.length + i + 1) (by omega)
  rw [a, b]
  exact sumTo_change _ i _ _ (by omega) fun y _ hy => h y hy
theorem names_change {ns ms : List Nd} (i : Nat) (h : ∀ j, j ≠ i → (nd ms j).list.length = (nd ns j).list.length) : namesP ms ms.length + (nd ns i).list.length = namesP ns ns.length + (nd ms i).list.length := by
  have a := names_to ms (ms.length + ns.length + i + 1) (by omega)
  have b := names_to ns (ms.length + ns.length + i + 1) (by omega)
  rw [a, b]
  exact sumTo_change _ i _ _ (by omega) fun y _ hy => h y hy
theorem bytes_same {ns ms : List Nd} (h : ∀ j, (nd ms j).data.length = (nd ns j).data.length) : bytesP ms ms.length = bytesP ns ns.length := by
  have := bytes_change (ns := ns) (ms := ms) 0 fun j _ => h j
  have := h 0
  omega
theorem checkP_nd {now : Int} {ms : List Nd} (t : timeP now = true) (hl2 : 2 ≤ ms.length) (hl : ms.length ≤ 513) (h0 : (nd ms 0).kind = 0) (h1 : (nd ms 1).kind = 2) (hp : (nd ms 1).parent = 1) (hz : (nd ms (ms.length - 1)).kind ≠ 0)
    (hb : bytesP ms ms.length ≤ 1048576) (hn : namesP ms ms.length ≤ 2048) (hk : ∀ i, kindP (nd ms i) = true) (hg : Hung ms) : checkP now ms = true := by
  refine checkP_of t ?_ ?_ ?_ hg
  · unfold rootP
    simp only [Bool.and_eq_true, decide_eq_true_eq]
    exact ⟨⟨⟨⟨⟨hl2, hl⟩, h0⟩, h1⟩, hp⟩, hz⟩
  · unfold limitsP
    simp only [Bool.and_eq_true, decide_eq_true_eq]
    exact ⟨hb, hn⟩
  · unfold nodesP
    exact allTo_true.2 fun i _ => hk i
theorem kind_nz : kindP nz = true := by decide
theorem check_all {now : Int} {ns : List Nd} (h : checkP now ns = true) : timeP now = true ∧ 2 ≤ ns.length ∧ ns.length ≤ 513 ∧ (nd ns 0).kind = 0 ∧ (nd ns 1).kind = 2 ∧ (nd ns 1).parent = 1 ∧ (nd ns (ns.length - 1)).kind ≠ 0 ∧ bytesP ns ns.length ≤ 1048576 ∧ namesP ns ns.length ≤ 2048 ∧ (∀ i, kindP (nd ns i) = true) ∧ Hung ns := by
  have hg := hung_check h
  unfold checkP rootP limitsP nodesP at h
  simp only [Bool.and_eq_true, decide_eq_true_eq] at h
  obtain ⟨⟨⟨⟨t, ⟨⟨⟨⟨a, b⟩, c⟩, d⟩, e⟩, f⟩, l1, l2⟩, k⟩, _⟩ := h
  refine ⟨t, a, b, c, d, e, f, l1, l2, fun i => ?_, hg⟩
  by_cases hi : i < ns.length
  · exact allTo_true.1 k i hi
  · rw [nd_none _ _ (by omega)]; exact kind_nz
theorem frees {now : Int} {ns : List Nd} (h : checkP now ns = true) : ∀ i, i < ns.length → (nd ns i).kind = 0 → nd ns i = nz :=
  fun i _ h0 => free_nz ((check_all h).2.2.2.2.2.2.2.2.2.1 i) h0
end Go.Proofs.YtidhceebafmlkaaGreatDoor.Ca

namespace Go.Proofs.YtidhceebafmlkaaGreatDoor.Ca
open Go.RowKit Cu Tr
theorem dirP_of {n : Nd} (h : kindP n = true) (hk : n.kind = 2) : dirP n = true := by
  unfold kindP at h
  rw [if_neg (by rw [hk]; decide), if_neg (by rw [hk]; decide), if_pos hk] at h
  exact h
theorem kind_dir {n : Nd} (hk : n.kind = 2) (h : dirP n = true) : kindP n = true := by
  unfold kindP
  rw [if_neg (by rw [hk]; decide), if_neg (by rw [hk]; decide), if_pos hk]
  exact h
theorem dir_list' {now : Int} {n : Nd} (h : kindP n = true) (hk : n.kind = 2) (ht : timeP now = true) (l : List En) (hl : listP l = true) (k p : Int) : kindP { n with list := l, time := now, links := k, parent := p } = true := by
  have q := dirP_of h hk
  unfold dirP hasOwnerP at q
  simp only [Bool.and_eq_true] at q
  refine kind_dir hk ?_
  unfold dirP hasOwnerP
  simp only [Bool.and_eq_true]
  exact ⟨⟨⟨⟨q.1.1.1.1, ht⟩, hl⟩, q.1.2⟩, q.2⟩
theorem dir_listP {n : Nd} (h : kindP n = true) (hk : n.kind = 2) : listP n.list = true := by
  have q := dirP_of h hk
  unfold dirP at q
  simp only [Bool.and_eq_true] at q
  exact q.1.1.2
theorem kind_links {n : Nd} (h : kindP n = true) (h0 : n.kind ≠ 0) (k : Int) : kindP { n with links := k } = true := by
  unfold kindP at h ⊢
  simp only at h ⊢
  rw [if_neg h0] at h ⊢
  exact h
theorem name_known {now : Int} {ns : List Nd} (hc : checkP now ns = true) {d m : Nat} {s : ByteArray} (hd : d < ns.length) (hk : (nd ns d).kind = 2) (hm : findP (nd ns d).list s = (m : Int)) (h0 : m ≠ 0) :
    posE (nd ns d).list s < (nd ns d).list.length ∧ en (nd ns d).list (posE (nd ns d).list s) = ⟨s, (m : Int)⟩ ∧ hasE (nd ns d).list s = true ∧ 1 < m ∧ m < ns.length ∧ (nd ns m).kind ≠ 0 ∧ ((nd ns m).kind = 2 → (nd ns m).parent = (d : Int)) ∧ (nd ns d).list.Perm (⟨s, (m : Int)⟩ :: delE (nd ns d).list (posE (nd ns d).list s)) := by
  obtain ⟨-, -, -, -, -, -, -, -, -, k, hg⟩ := check_all hc
  obtain ⟨h1, h2, h3⟩ := found (listP_iff.1 (dir_listP (k d) hk)).2.2 hm (by omega)
  have hp := del_perm h1
  rw [h2] at hp
  have he : (⟨s, (m : Int)⟩ : En) ∈ (nd ns d).list := hp.mem_iff.2 (List.mem_cons_self ..)
  obtain ⟨a, b, c, e⟩ := (hg.good d hd hk).1.1 _ he
  simp only [Int.toNat_natCast] at a b c e
  exact ⟨h1, h2, h3, by omega, by omega, c, e, hp⟩
theorem lost_kind {n : Nd} (h : kindP n = true) : kindP (lost n) = true := by
  unfold lost
  split
  · by_cases h0 : n.kind = 0
    · rename_i q
      rw [free_nz h h0] at q
      exact absurd q.1 (by decide)
    · exact kind_links h h0 _
  · exact kind_nz
theorem keep_remove {now : Int} {ns : List Nd} (hc : checkP now ns = true) {d m : Nat} {s : ByteArray} (hd : d < ns.length) (hk : (nd ns d).kind = 2) (hm : findP (nd ns d).list s = (m : Int)) (h0 : m ≠ 0) (he : (nd ns m).kind = 2 → (nd ns m).list = []) :
    checkP now (loseD (unlistD now ns d s m) m) = true ∧ (∀ j, nd (loseD (unlistD now ns d s m) m) j = if j = m then lost (nd ns m) else if j = d then { nd ns d with list := delE (nd ns d).list (posE (nd ns d).list s), time := now, links := (nd ns d).links - if (nd ns m).kind = 2 then 1 else 0 } else nd ns j) ∧ (loseD (unlistD now ns d s m) m).length ≤ ns.length := by
  obtain ⟨t, a, b, c, r, rp, z, l1, l2, k, hg⟩ := check_all hc
  obtain ⟨p1, p2, p3, hm1, hml, hmk, hmp, hpe⟩ := name_known hc hd hk hm h0
  have hne : d ≠ m := by
    intro e
    subst e
    rw [he hk] at p1
    exact absurd p1 (by simp)
  obtain ⟨u, hu⟩ : ∃ u, u = unlistD now ns d s m := ⟨_, rfl⟩
  have hul : u.length = ns.length := by rw [hu, unlistD_len]
  have hun : ∀ j, nd u j = if j = d then { nd ns d with list := delE (nd ns d).list (posE (nd ns d).list s), time := now, links := (nd ns d).links - if (nd ns m).kind = 2 then 1 else 0 } else nd ns j := by
    intro j
    rw [hu, nd_unlistD _ _ _ _ _ hd, p3]
    simp only [if_true]
  have hum : nd u m = nd ns m := by rw [hun, if_neg (fun e => hne e.symm)]
  rw [← hu]
  obtain ⟨hlo, q2, q3, q4⟩ := loseD_is u m (by omega) hm1 fun i hi hz => by
    rw [hun] at hz ⊢
    split at hz
    · exact absurd (show (nd ns d).kind = 0 from hz) (by rw [hk]; decide)
    · rw [if_neg ‹_›]; exact frees hc i (by omega) hz
  obtain ⟨ms, hms⟩ : ∃ ms, ms = loseD u m := ⟨_, rfl⟩
  rw [← hms] at hlo q2 q3 q4 ⊢
  have hnd : ∀ j, nd ms j = if j = m then lost (nd ns m) else if j = d then { nd ns d with list := delE (nd ns d).list (posE (nd ns d).list s), time := now, links := (nd ns d).links - if (nd ns m).kind = 2 then 1 else 0 } else nd ns j := by
    intro j
    rw [hlo, hum]
    by_cases e : j = m
    · rw [if_pos e, if_pos e]
    · rw [if_neg e, if_neg e, hun]
  have hnm : nd ms m = lost (nd ns m) := by rw [hnd, if_pos rfl]
  have hnD : nd ms d = { nd ns d with list := delE (nd ns d).list (posE (nd ns d).list s), time := now, links := (nd ns d).links - if (nd ns m).kind = 2 then 1 else 0 } := by rw [hnd, if_neg hne, if_pos rfl]
  have hrest : ∀ i, i ≠ d → i ≠ m → nd ms i = nd ns i := fun i h1 h2 => by rw [hnd, if_neg h2, if_neg h1]
  have hkind : ∀ i, i ≠ m → (nd ms i).kind = (nd ns i).kind := by
    intro i hi
    by_cases e : i = d
    · rw [e, hnD]
    · rw [hrest i e hi]
  have hH : Hung ms := by
    by_cases h2 : (nd ns m).kind = 2
    · have hlost : lost (nd ns m) = nz := by unfold lost; rw [if_neg (fun q => q.2 h2)]
      have D : DropD ns ms d m :=
        { dk := hk, dk' := by rw [hnD]; exact hk, dp := by rw [hnD], dn := by rw [hnD, if_pos h2]; show (nd ns d).links - 1 + 1 = _; omega, ne := hne, n1 := hm1, nk := h2, nt := he h2, nk0 := by rw [hnm, hlost]
          rest := fun i h1 h2 => by rw [hrest i h1 h2]; exact ⟨rfl, rfl, rfl, rfl⟩
          perm := ⟨_, rfl, by rw [hnD]; exact hpe⟩ }
      exact D.hung hg
    · have hli := hg.links m (by omega) hml hmk h2
      have hti := hg.listed m (by omega) hml hmk
      have D : DropF ns ms d m :=
        { dk := hk, dk' := by rw [hnD]; exact hk, dp := by rw [hnD], dn := by rw [hnD, if_neg h2]; show (nd ns d).links - 0 = _; omega, nk := h2
          nk2 := by
            rw [hnm]; unfold lost
            split
            · exact h2
            · decide
          left := by
            rw [hnm]; unfold lost
            by_cases q : 0 < (nd ns m).links - 1
            · rw [if_pos ⟨q, h2⟩]
              exact .inr ⟨hmk, by omega, by show (nd ns m).links - 1 + 1 = _; omega⟩
            · rw [if_neg (fun x => q x.1)]
              exact .inl ⟨rfl, by omega⟩
          rest := fun i h1 h2 => by rw [hrest i h1 h2]; exact ⟨rfl, rfl, rfl, rfl⟩
          perm := ⟨_, rfl, by rw [hnD]; exact hpe⟩ }
      exact D.hung hg
  have hdel : listP (delE (nd ns d).list (posE (nd ns d).list s)) = true := del_list (dir_listP (k d) hk) _
  refine ⟨checkP_nd t q2 (by omega) ?_ ?_ ?_ ?_ ?_ ?_ (fun j => ?_) hH, hnd, by omega⟩
  · rw [hkind 0 (by omega)]; exact c
  · rw [hkind 1 (by omega)]; exact r
  · by_cases e : 1 = d
    · rw [e, hnD]; show (nd ns d).parent = 1; rw [← e]; exact rp
    · rw [hrest 1 e (by omega)]; exact rp
  · refine q4 ?_ ?_
    · rw [hun]
      split
      · show (nd ns d).kind ≠ 0; rw [hk]; decide
      · rw [r]; decide
    · rw [hul, hun]
      split
      · show (nd ns d).kind ≠ 0; rw [hk]; decide
      · exact z
  · have h1 := bytes_change (ns := ns) (ms := ms) m fun j hj => by
      by_cases e : j = d
      · rw [e, hnD]
      · rw [hrest j e hj]
    have h2 : (nd ms m).data.length ≤ (nd ns m).data.length := by
      rw [hnm]; unfold lost
      split
      · exact Nat.le_refl _
      · exact Nat.zero_le _
    omega
  · refine Nat.le_trans ?_ l2
    have h3 := names_to ms (ms.length + ns.length) (by omega)
    have h4 := names_to ns (ms.length + ns.length) (by omega)
    rw [h3, h4]
    refine sumTo_le _ _ _ fun i _ => ?_
    rw [hnd]
    split
    · rename_i e
      rw [e]; unfold lost
      split
      · exact Nat.le_refl _
      · exact Nat.zero_le _
    · split
      · rename_i e
        rw [e]; exact (del_subl _ _).length_le
      · exact Nat.le_refl _
  · rw [hnd]
    split
    · exact lost_kind (k m)
    · split
      · exact dir_list' (k d) hk t _ hdel _ _
      · exact k j
end Go.Proofs.YtidhceebafmlkaaGreatDoor.Ca

namespace Go.Proofs.YtidhceebafmlkaaGreatDoor.Ca
open Go.RowKit Cu Tr
theorem entries_ne {now : Int} {ns : List Nd} (hc : checkP now ns = true) {d : Nat} (hd : d < ns.length) (hk : (nd ns d).kind = 2) {s : ByteArray} (hs : findP (nd ns d).list s = 0) : ∀ e ∈ (nd ns d).list, e.name ≠ s := by
  obtain ⟨-, -, -, -, -, -, -, -, -, k, hg⟩ := check_all hc
  refine none_named (fun e he h0 => ?_) hs
  have := ((hg.good d hd hk).1.1 e he).1
  omega
end Go.Proofs.YtidhceebafmlkaaGreatDoor.Ca
