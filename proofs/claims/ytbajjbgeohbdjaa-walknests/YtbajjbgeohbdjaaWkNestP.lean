/- A walk's steps are nested, and their paths unlike, in plain words. -/
import Derived.Test.YtbajjbgeohbdjaaWkPlain
namespace Go.Proofs.Ytbajjbgeohbdjaa.Wk
open Go.RowKit Go.Proofs.Ytbajjbgeohbdjaa.Cu Go.Proofs.Ytbajjbgeohbdjaa.Tr Go.Proofs.Ytbajjbgeohbdjaa.Pm Go.Proofs.Ytbajjbgeohbdjaa.Pt

def psL (l : List Sp) : List ByteArray := (l.filter fun s => !s.after).map (·.path)
theorem psL_app (a b : List Sp) : psL (a ++ b) = psL a ++ psL b := by unfold psL; rw [List.filter_append, List.map_append]
theorem psL_mem {l : List Sp} {q : ByteArray} (h : q ∈ psL l) : ∃ s ∈ l, s.path = q := by
  unfold psL at h
  obtain ⟨s, hs, e⟩ := List.mem_map.1 h
  exact ⟨s, (List.mem_filter.1 hs).1, e⟩
/-- the steps that are left go on from what is open, and what was seen -/
def nestOk (ns : List Nd) (deep : Int) : List Sp → List Sp → List ByteArray → Prop
  | [], o, _ => o = []
  | s :: l, o, seen =>
    if s.after = true then ∃ o' t, o = o' ++ [t] ∧ (nd ns s.node.toNat).kind = 2 ∧ t.path = s.path ∧ t.node = s.node ∧ t.depth = s.depth ∧ nestOk ns deep l o' seen
    else s.depth = (o.length : Int) ∧ s.depth ≤ max deep 0 ∧ s.path ∉ seen ∧ nestOk ns deep l (if (nd ns s.node.toNat).kind = 2 then o ++ [s] else o) (seen ++ [s.path])

/-! ### paths -/
def Fine (p : ByteArray) : Prop := bs p ≠ [] ∧ (bs p).getLast? ≠ some 47
def Ext (c q : ByteArray) : Prop := ∃ r, bs q = bs c ++ r ∧ (r = [] ∨ r.head? = some 47)
theorem name_bytes {s : ByteArray} (h : nameP s = true) : bs s ≠ [] ∧ ∀ c ∈ bs s, c ≠ 47 := by
  unfold nameP hasB at h
  simp only [Bool.and_eq_true, decide_eq_true_eq, Bool.not_eq_true', decide_eq_false_iff_not] at h
  refine ⟨fun e => ?_, fun c hc e => ?_⟩
  · have : s.size = 0 := by rw [← bs_len, e]; rfl
    omega
  · subst e; exact h.2 hc
/-- what stands ahead of a name -/
def pfx (p : ByteArray) : Bs := if bs p = [] ∨ (bs p).getLast? = some 47 then bs p else bs p ++ [47]
theorem jn_bytes (p n : ByteArray) : bs (jnP p n) = pfx p ++ bs n := by
  unfold jnP joinB pfx
  rw [bs_tx]
  split
  · rfl
  · simp
theorem fine_jn (p : ByteArray) {n : ByteArray} (h : nameP n = true) : Fine (jnP p n) := by
  obtain ⟨h1, h2⟩ := name_bytes h
  refine ⟨?_, ?_⟩
  · rw [jn_bytes]; simp [h1]
  · rw [jn_bytes, getLast_app _ _ h1]; exact noSl_end h2
theorem ext_refl (c : ByteArray) : Ext c c := ⟨[], by simp, .inl rfl⟩
theorem ext_jn {c p n : ByteArray} (h : Ext c p) (hp : Fine p) : Ext c (jnP p n) := by
  obtain ⟨r, h1, h2⟩ := h
  refine ⟨r ++ 47 :: bs n, ?_, .inr ?_⟩
  · rw [jn_bytes]
    unfold pfx
    rw [if_neg (by intro h; rcases h with h | h; exact hp.1 h; exact hp.2 h), h1]
    simp
  · rcases h2 with rfl | h2
    · rfl
    · cases r with
      | nil => simp at h2
      | cons x r => simpa using h2
theorem ext_apart {p n m a b : ByteArray} (hn : nameP n = true) (hm : nameP m = true) (hne : n ≠ m) (ha : Ext (jnP p n) a) (hb : Ext (jnP p m) b) : a ≠ b := by
  intro e
  obtain ⟨r, h1, h2⟩ := ha
  obtain ⟨t, h3, h4⟩ := hb
  rw [jn_bytes] at h1 h3
  have h5 : bs n ++ r = bs m ++ t := by
    have : pfx p ++ (bs n ++ r) = pfx p ++ (bs m ++ t) := by rw [← List.append_assoc, ← List.append_assoc, ← h1, ← h3, e]
    exact List.append_cancel_left this
  have key : ∀ (x r : Bs), (∀ c ∈ x, c ≠ 47) → (r = [] ∨ r.head? = some 47) → (x ++ r).takeWhile (fun c => decide (c ≠ 47)) = x := fun x r hx hr =>
    takeWhile_append_stop x r (fun c hc => decide_eq_true (hx c hc)) (fun y hy => by
      rcases hr with rfl | hr
      · simp at hy
      · rw [hr] at hy; simp at hy; simp [← hy])
  have k1 := key (bs n) r (name_bytes hn).2 h2
  have k2 := key (bs m) t (name_bytes hm).2 h4
  rw [h5, k2] at k1
  exact hne (ba_ext k1.symm)
theorem ext_longer {p n a : ByteArray} (hn : nameP n = true) (ha : Ext (jnP p n) a) : a ≠ p := by
  intro e
  obtain ⟨r, h1, _⟩ := ha
  rw [jn_bytes, e] at h1
  have h2 := congrArg List.length h1
  have h3 := (name_bytes hn).1
  have h4 : (bs p).length ≤ (pfx p).length := by unfold pfx; split <;> simp
  have h5 : 0 < (bs n).length := List.length_pos_iff.2 h3
  simp only [List.length_append] at h2
  omega
/-- the paths below a name begin with it -/
theorem wk_ext {now : Int} {ns : List Nd} (hc : checkP now ns = true) (e : Ev) (deep : Int) {f d : Nat} {c : ByteArray} {n : Nat} (h : In ns f n) (hf : Fine c) : ∀ s ∈ wkP ns e deep f d c n, Ext c s.path := by
  refine wk_all (hung_check hc) e deep (fun _ _ p _ => Fine p ∧ Ext c p) _ (fun f d p n _ hq => ⟨hq.2, fun _ => hq.2⟩) (fun f d p n x hi hq hk hx => ?_) f d c n h ⟨hf, ext_refl c⟩
  exact ⟨fine_jn p (name_le hc hi.pos hi.lt hk (lsP_mem hx)), ext_jn hq.2 hq.1⟩

/-! ### the steps are nested -/
theorem nest_wk {now : Int} {ns : List Nd} (hc : checkP now ns = true) (e : Ev) (deep : Int) : ∀ f d p n (rest o : List Sp) (seen : List ByteArray), In ns f n → d = o.length → (d : Int) ≤ max deep 0 → (∀ s ∈ wkP ns e deep f d p n, s.path ∉ seen) →
    nestOk ns deep rest o (seen ++ psL (wkP ns e deep f d p n)) → nestOk ns deep (wkP ns e deep f d p n ++ rest) o seen := by
  intro f
  induction f with
  | zero => intro d p n rest o seen hi; exact absurd hi.fu.1 (by decide)
  | succ f ih =>
    intro d p n rest o seen hi hd hdp hs hr
    unfold wkP at hs hr ⊢
    split
    · rename_i hk
      rw [if_pos hk] at hs hr
      have hs0 : p ∉ seen := hs ⟨p, n, d, false⟩ (by simp)
      rw [List.cons_append, nestOk, if_neg (by simp)]
      refine ⟨by show (d : Int) = _; rw [hd], hdp, hs0, ?_⟩
      simp only [Int.toNat_natCast]
      rw [if_pos hk]
      obtain ⟨fst, hfst⟩ : ∃ fst : Sp, fst = ⟨p, n, d, false⟩ := ⟨_, rfl⟩
      rw [← hfst] at hs hr ⊢
      rw [List.append_assoc]
      -- the names, one by one
      have key : ∀ (L : List En) (done : List ByteArray), (∀ x ∈ L, x ∈ lsP ns e deep n d) → L.Pairwise (fun x y => x.name ≠ y.name) → (∀ q ∈ done, ∀ y ∈ L, ∀ b, Ext (jnP p y.name) b → b ≠ q) →
          nestOk ns deep ([⟨p, n, d, true⟩] ++ rest) (o ++ [fst]) (seen ++ [p] ++ done ++ psL (wkL (wkP ns e deep f (d + 1)) p L)) →
          (∀ s ∈ wkL (wkP ns e deep f (d + 1)) p L, s.path ∉ seen) →
          nestOk ns deep (wkL (wkP ns e deep f (d + 1)) p L ++ ([⟨p, n, d, true⟩] ++ rest)) (o ++ [fst]) (seen ++ [p] ++ done) := by
        intro L
        induction L with
        | nil =>
          intro done _ _ _ h _
          simpa [wkL, psL] using h
        | cons x L ihL =>
          intro done hL hpw hdn h hsn
          have hx := hL x (by simp)
          have hnx := name_le hc hi.pos hi.lt hk (lsP_mem hx)
          have hch := (hi.child (hung_check hc) hk (lsP_mem hx)).1
          have hext := wk_ext hc e deep (d := d + 1) hch (fine_jn p hnx)
          have hdeep : (d : Int) < deep := by
            unfold lsP enP at hx
            split at hx
            · rename_i h
              simp only [Bool.and_eq_true, decide_eq_true_eq] at h
              exact h.1
            · cases hx
          rw [wkL, psL_app] at h
          rw [wkL] at hsn ⊢
          rw [List.append_assoc]
          refine ih (d + 1) (jnP p x.name) x.node.toNat _ (o ++ [fst]) _ hch (by simp [hd]) (by omega) (fun s hs' => ?_) ?_
          · have q1 := hext s hs'
            intro hm
            rcases List.mem_append.1 hm with hm | hm
            · rcases List.mem_append.1 hm with hm | hm
              · exact hsn s (List.mem_append.2 (.inl hs')) hm
              · exact ext_longer hnx q1 (List.mem_singleton.1 hm)
            · exact hdn _ hm x (by simp) _ q1 rfl
          · have e1 : seen ++ [p] ++ done ++ psL (wkP ns e deep f (d + 1) (jnP p x.name) x.node.toNat) = seen ++ [p] ++ (done ++ psL (wkP ns e deep f (d + 1) (jnP p x.name) x.node.toNat)) := by simp
            rw [e1]
            refine ihL (done ++ psL (wkP ns e deep f (d + 1) (jnP p x.name) x.node.toNat)) (fun y hy => hL y (by simp [hy])) (List.pairwise_cons.1 hpw).2 (fun q hq y hy b hb => ?_) (by rw [← e1]; simpa using h) (fun s hs' => hsn s (List.mem_append.2 (.inr hs')))
            rcases List.mem_append.1 hq with hq | hq
            · exact hdn q hq y (by simp [hy]) b hb
            · obtain ⟨s, hs', rfl⟩ := psL_mem hq
              have hny := name_le hc hi.pos hi.lt hk (lsP_mem (hL y (by simp [hy])))
              exact ext_apart hny hnx (fun e => (List.pairwise_cons.1 hpw).1 y hy e.symm) hb (hext s hs')
      have hpw : (lsP ns e deep n d).Pairwise (fun x y => x.name ≠ y.name) := by
        have h1 : (nd ns n).list.Pairwise (fun x y => x.name ≠ y.name) := by
          have hr := rises_of (dr_list hc ⟨hi.pos, hi.lt, hk⟩)
          refine List.pairwise_iff_getElem.2 fun i j hi' hj' hij he => ?_
          have := hr i j hij hj'
          have e1 : en (nd ns n).list i = (nd ns n).list[i] := by simp [en, List.getD, List.getElem?_eq_getElem hi']
          have e2 : en (nd ns n).list j = (nd ns n).list[j] := by simp [en, List.getD, List.getElem?_eq_getElem hj']
          rw [e1, e2, he] at this
          exact List.lt_irrefl _ this
        unfold lsP
        split
        · exact h1
        · exact List.Pairwise.nil
      have h2 := key (lsP ns e deep n d) [] (fun x hx => hx) hpw (by simp) ?_ (fun s hs' => hs s (by simp [hs']))
      · simpa using h2
      · rw [List.singleton_append, nestOk, if_pos rfl]
        refine ⟨o, fst, rfl, by simp only [Int.toNat_natCast]; exact hk, by rw [hfst], by rw [hfst], by rw [hfst], ?_⟩
        have e1 : psL (fst :: (wkL (wkP ns e deep f (d + 1)) p (lsP ns e deep n d) ++ [⟨p, n, d, true⟩])) = p :: psL (wkL (wkP ns e deep f (d + 1)) p (lsP ns e deep n d)) := by
          rw [← List.singleton_append, psL_app, psL_app, hfst]
          simp [psL]
        rw [e1] at hr
        simpa using hr
    · rename_i hk
      rw [if_neg hk] at hs hr
      have hs0 : p ∉ seen := hs ⟨p, n, d, false⟩ (by simp)
      rw [List.singleton_append, nestOk, if_neg (by simp)]
      refine ⟨by show (d : Int) = _; rw [hd], hdp, hs0, ?_⟩
      simp only [Int.toNat_natCast]
      rw [if_neg hk]
      simpa [psL] using hr
theorem nest_all {now : Int} {ns : List Nd} (hc : checkP now ns = true) (e : Ev) (deep : Int) (p : ByteArray) {n : Nat} (h : In ns 34 n) : nestOk ns deep (wkP ns e deep 34 0 p n) [] [] := by
  have := nest_wk hc e deep 34 0 p n [] [] [] h rfl (by omega) (by simp) rfl
  simpa using this
theorem wk_first {ns : List Nd} (e : Ev) (deep : Int) (f d : Nat) (p : ByteArray) (n : Nat) : ∃ t, wkP ns e deep (f + 1) d p n = ⟨p, n, d, false⟩ :: t := by
  unfold wkP
  split
  · exact ⟨_, rfl⟩
  · exact ⟨_, rfl⟩
end Go.Proofs.Ytbajjbgeohbdjaa.Wk
