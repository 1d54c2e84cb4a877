import Derived.Test.YtidhceebafmlkaaGreatDoorCaPlain
import Derived.Test.YtidhceebafmlkaaGreatDoorCaKp5
import Derived.Test.YtidhceebafmlkaaGreatDoorCaAct
namespace Go.Proofs.YtidhceebafmlkaaGreatDoor.Tr
open Go.RowKit Cu
theorem count_pos_sum {n : Nat} {g : Nat → Nat} (h : 1 ≤ sumTo n g) : ∃ y, y < n ∧ 1 ≤ g y := by
  induction n with
  | zero => simp [sumTo] at h
  | succ n ih =>
    rw [sumTo_succ] at h
    by_cases e : 1 ≤ g n
    · exact ⟨n, by omega, e⟩
    · obtain ⟨y, hy, hg⟩ := ih (by omega)
      exact ⟨y, by omega, hg⟩
theorem listed_once {ns : List Nd} (h : Hung ns) {d p : Nat} (hd : 2 ≤ d) (hn : d < ns.length) (hk : (nd ns d).kind = 2) (hp : (nd ns d).parent = (p : Int)) : (tg ns p).count d = 1 ∧ (nd ns p).kind = 2 ∧ p < ns.length := by
  have ht := h.once d hd hn hk
  have huniq : ∀ y, y < ns.length → (nd ns y).kind = 2 → 1 ≤ (tg ns y).count d → y = p := by
    intro y hy hky hc
    have hm : d ∈ tg ns y := List.count_pos_iff.1 (by omega)
    unfold tg at hm
    obtain ⟨e, he, hed⟩ := List.mem_map.1 hm
    have := ((h.good y hy hky).1.1 e he).2.2.2 (by rw [hed]; exact hk)
    rw [hed, hp] at this
    omega
  have ht1 : 1 ≤ sumTo ns.length (fun y => if (nd ns y).kind = 2 then (tg ns y).count d else 0) := by
    have := ht
    unfold times at this
    omega
  obtain ⟨y, hy, hg⟩ := count_pos_sum ht1
  by_cases hky : (nd ns y).kind = 2
  · rw [if_pos hky] at hg
    obtain rfl := huniq y hy hky hg
    refine ⟨?_, hky, hy⟩
    have := sumTo_le ns.length (fun j => if j = y then (tg ns j).count d else 0) (fun j => if (nd ns j).kind = 2 then (tg ns j).count d else 0) (fun j _ => by
      by_cases ej : j = y
      · subst ej; rw [if_pos rfl, if_pos hky]; exact Nat.le_refl _
      · rw [if_neg ej]; exact Nat.zero_le _)
    rw [sumTo_one ns.length y (fun j => (tg ns j).count d) hy] at this
    unfold times at ht
    omega
  · rw [if_neg hky] at hg; omega
theorem hits_one {ns : List Nd} (h : Hung ns) {d p : Nat} (hd : 2 ≤ d) (hn : d < ns.length) (hk : (nd ns d).kind = 2) (hp : (nd ns d).parent = (p : Int)) : ∃ k, k < (nd ns p).list.length ∧ (en (nd ns p).list k).node = (d : Int) ∧ hits (nd ns p).list d = [(en (nd ns p).list k).name] := by
  obtain ⟨hc, hkp, hpn⟩ := listed_once h hd hn hk hp
  have hok := (h.good p hpn hkp).1.1
  have key : ∀ l : List En, (∀ e ∈ l, 1 < e.node) → (l.map fun e => e.node.toNat).count d = 1 → ∃ k, k < l.length ∧ (en l k).node = (d : Int) ∧ hits l d = [(en l k).name] := by
    intro l
    induction l with
    | nil => intro _ h; simp at h
    | cons e l ih =>
      intro hl hcn
      rw [List.map_cons] at hcn
      have he := hl e (by simp)
      by_cases ed : e.node.toNat = d
      · refine ⟨0, by simp, ?_, ?_⟩
        · show e.node = (d : Int); omega
        · have h0 : (l.map fun e => e.node.toNat).count d = 0 := by rw [ed, List.count_cons_self] at hcn; omega
          have : l.filter (fun e => decide (e.node = (d : Int))) = [] := by
            rw [List.filter_eq_nil_iff]
            intro x hx
            simp only [decide_eq_true_eq]
            intro hxd
            exact List.count_eq_zero.1 h0 (List.mem_map.2 ⟨x, hx, by rw [hxd]; simp⟩)
          unfold hits
          rw [List.filter_cons, if_pos (by simp; omega), this]
          rfl
      · rw [List.count_cons_of_ne ed] at hcn
        obtain ⟨k, h1, h2, h3⟩ := ih (fun x hx => hl x (by simp [hx])) hcn
        refine ⟨k + 1, by simp; omega, h2, ?_⟩
        have e1 : hits (e :: l) d = hits l d := by
          unfold hits
          rw [List.filter_cons, if_neg (by simp; omega)]
        rw [e1, h3]; rfl
  exact key _ (fun e he => (hok e he).1) hc
def walkN (ns : List Nd) : Nat → List ByteArray → Nat
  | c, [] => c
  | c, x :: r => walkN ns (findP (nd ns c).list x).toNat r
theorem walkN_snoc (ns : List Nd) (l : List ByteArray) (x : ByteArray) : ∀ c, walkN ns c (l ++ [x]) = (findP (nd ns (walkN ns c l)).list x).toNat := by
  induction l with
  | nil => intro c; rfl
  | cons y l ih => intro c; exact ih _
theorem names_lead {now : Int} {ns : List Nd} (hc : checkP now ns = true) {s d : Nat} (h : Up ns s d) : (namesUp ns s d).length = s ∧ ∀ j, j ≤ s → Up ns j (walkN ns 1 ((namesUp ns s d).reverse.take j)) ∧ (j = s → walkN ns 1 ((namesUp ns s d).reverse.take j) = d) := by
  have hh := hung_check hc
  induction h with
  | root =>
    refine ⟨rfl, fun j hj => ?_⟩
    obtain rfl : j = 0 := by omega
    exact ⟨Up.root, fun _ => rfl⟩
  | @step s x p h1 h2 h3 h4 h5 ih =>
    obtain ⟨ihl, ihj⟩ := ih
    obtain ⟨k, hk1, hk2, hk3⟩ := hits_one hh h1 h2 h3 h4
    have e1 : namesUp ns (s + 1) x = (en (nd ns p).list k).name :: namesUp ns s p := by
      show hits (nd ns (nd ns x).parent.toNat).list x ++ namesUp ns s (nd ns x).parent.toNat = _
      rw [h4, Int.toNat_natCast, hk3]; rfl
    have hlen : (namesUp ns (s + 1) x).length = s + 1 := by rw [e1, List.length_cons, ihl]
    refine ⟨hlen, fun j hj => ?_⟩
    rw [e1, List.reverse_cons]
    by_cases hjs : j ≤ s
    · rw [List.take_append_of_le_length (by rw [List.length_reverse, ihl]; exact hjs)]
      exact ⟨(ihj j hjs).1, fun e => by omega⟩
    · obtain rfl : j = s + 1 := by omega
      rw [List.take_of_length_le (by simp [ihl]), walkN_snoc]
      have hw := (ihj s (Nat.le_refl _)).2 rfl
      rw [List.take_of_length_le (by rw [List.length_reverse, ihl]; exact Nat.le_refl _)] at hw
      rw [hw]
      have hpl : listP (nd ns p).list = true := by
        obtain ⟨_, hkp, hpn⟩ := listed_once hh h1 h2 h3 h4
        rcases kind_list ((checkP_parts hc).2.2.2.2.2.1 p hpn) with ⟨_, q⟩ | ⟨q, _⟩
        · exact q
        · exact absurd hkp q
      rw [find_at (rises_of hpl) k hk1 rfl, hk2, Int.toNat_natCast]
      exact ⟨Up.step h1 h2 h3 h4 h5, fun _ => rfl⟩
def jn : List ByteArray → Bs
  | [] => []
  | [x] => bs x
  | x :: y :: r => bs x ++ 47 :: jn (y :: r)
end Go.Proofs.YtidhceebafmlkaaGreatDoor.Tr

namespace Go.Proofs.YtidhceebafmlkaaGreatDoor.Ca
open Go.RowKit Cu Tr Pm Pt
theorem or_zero : ∀ {l : List Int}, orP l = 0 ↔ ∀ x ∈ l, x = 0
  | [] => by simp [orP]
  | x :: l => by
    unfold orP
    split
    · rename_i h; rw [or_zero (l := l)]; simp [h]
    · rename_i h; simp [h]
theorem wh_no {b : Bool} {k : Int} (hk : k ≠ 0) : wh b k = 0 ↔ b = false := by
  unfold wh
  cases b with
  | true => simp [hk]
  | false => simp
theorem Okp.named {ns : List Nd} {p : Pl} (h : Okp ns p) (hn : nameless p = false) : ∃ d : Nat, p.dir = (d : Int) ∧ Dr ns d ∧ nameP p.name = true ∧ p.node = findP (nd ns d).list p.name := by
  obtain ⟨d, hd, hdr⟩ := h.dir
  rcases h.what with ⟨h1, _⟩ | ⟨h1, h2⟩
  · unfold nameless at hn
    rw [h1] at hn
    exact absurd hn (by decide)
  · exact ⟨d, hd, hdr, h1, by rw [h2, hd, Int.toNat_natCast]⟩
theorem isD_is {n : Nd} : isD n = true ↔ n.kind = 2 := by unfold isD; exact decide_eq_true_iff
theorem isN_no {n : Nd} : isN n = false ↔ n.kind ≠ 0 := by unfold isN; exact decide_eq_false_iff_not
theorem isD_no {n : Nd} : isD n = false ↔ n.kind ≠ 2 := by unfold isD; exact decide_eq_false_iff_not
theorem Okp.some {now : Int} {ns : List Nd} {p : Pl} (hc : checkP now ns = true) (h : Okp ns p) (hn : isN (nd ns p.node.toNat) = false) : ∃ m : Nat, p.node = (m : Int) ∧ m ≠ 0 ∧ m < ns.length ∧ (nd ns m).kind ≠ 0 := by
  obtain ⟨m, hm, hl, _⟩ := h.node hc
  rw [hm, Int.toNat_natCast] at hn
  refine ⟨m, hm, fun e => ?_, hl, isN_no.1 hn⟩
  rw [e] at hn
  exact isN_no.1 hn (checkP_parts hc).2.2.1
theorem some_own {now : Int} {ns : List Nd} {e : Ev} (h : someP now ns e = true) : ownerP e.user = true ∧ ownerP e.group = true ∧ checkP now ns = true := by
  have h2 := (some_dir h).1
  unfold someP at h
  simp only [Bool.and_eq_true] at h
  exact ⟨h.1.1.1.1, h.1.1.1.2, h2⟩
theorem deep_up {now : Int} {ns : List Nd} (hc : checkP now ns = true) {d : Nat} (hd : Dr ns d) : ∃ u : Nat, depthV now ns (d : Int) = (u : Int) ∧ Up ns u d ∧ u ≤ 32 := by
  have hi : isDirP now ns (d : Int) = true := by
    unfold isDirP nodeP
    rw [hc, Int.toNat_natCast, hd.2.2]
    have := hd.1; have := hd.2.1
    simp; omega
  obtain ⟨h1, h2⟩ := dir_up hi
  refine ⟨depN ns 32 d, ?_, h1, h2⟩
  unfold depthV
  rw [if_pos hi, Int.toNat_natCast]
  unfold namesTo
  rw [List.length_reverse, (names_lead hc h1).1]
theorem height_leK (a : Ac) (d i : Nat) (hi : i < a.ns.length) (hk : (nd a.ns i).kind = 2) (hs : (stepsUp a.ns d 33 i).2 = true) : (stepsUp a.ns d 33 i).1 ≤ a.height d := by
  unfold Ac.height
  have mono : ∀ (l : List Nat) (h : Nat), h ≤ l.foldl (fun h i => if isD (nd a.ns i) && (stepsUp a.ns d 33 i).2 then max h (stepsUp a.ns d 33 i).1 else h) h := by
    intro l
    induction l with
    | nil => exact fun h => Nat.le_refl _
    | cons x l ih =>
      intro h
      rw [List.foldl_cons]
      refine Nat.le_trans ?_ (ih _)
      split <;> omega
  have gen : ∀ (l : List Nat) (h : Nat), i ∈ l → (stepsUp a.ns d 33 i).1 ≤ l.foldl (fun h i => if isD (nd a.ns i) && (stepsUp a.ns d 33 i).2 then max h (stepsUp a.ns d 33 i).1 else h) h := by
    intro l
    induction l with
    | nil => intro h hm; cases hm
    | cons x l ih =>
      intro h hm
      rw [List.foldl_cons]
      rcases List.mem_cons.1 hm with rfl | hm
      · refine Nat.le_trans ?_ (mono l _)
        rw [if_pos (by rw [isD_is.2 hk, hs]; rfl)]
        omega
      · exact ih _ hm
  exact gen _ 0 (List.mem_range.2 hi)
end Go.Proofs.YtidhceebafmlkaaGreatDoor.Ca

namespace Go.Proofs.YtidhceebafmlkaaGreatDoor.Ca
open Go.RowKit Cu Tr Pm Pt
def KeepR (R : Ans) : Prop := (R.2 = 0 ∧ checkP R.1.2 R.1.1 = true) ∨ (R.2 ≠ 0 ∧ R.1.1 = [])
theorem keep_no {k : Int} (h : k ≠ 0) : KeepR (no k) := .inr ⟨h, rfl⟩
theorem keep_yes {now : Int} {ns : List Nd} (h : checkP now ns = true) : KeepR (yes now ns) := .inl ⟨rfl, h⟩
theorem list_none {n : Nd} (h : kindP n = true) (hk : n.kind ≠ 2) : n.list = [] := by
  unfold kindP at h
  by_cases h0 : n.kind = 0
  · rw [if_pos h0] at h
    unfold freeP noListP at h
    simp only [Bool.and_eq_true, decide_eq_true_eq] at h
    exact List.length_eq_zero_iff.1 h.2.1
  by_cases h1 : n.kind = 1
  · rw [if_neg h0, if_pos h1] at h
    unfold fileP noListP at h
    simp only [Bool.and_eq_true, decide_eq_true_eq] at h
    exact List.length_eq_zero_iff.1 h.2.1
  by_cases h3 : n.kind = 3
  · rw [if_neg h0, if_neg h1, if_neg hk, if_pos h3] at h
    unfold linkP noListP at h
    simp only [Bool.and_eq_true, decide_eq_true_eq] at h
    exact List.length_eq_zero_iff.1 h.2.1
  · rw [if_neg h0, if_neg h1, if_neg hk, if_neg h3] at h
    cases h
theorem zero_free {now : Int} {ns : List Nd} (hc : checkP now ns = true) : nd ns 0 = nz := by
  obtain ⟨-, a, -, c, -⟩ := check_all hc
  exact frees hc 0 (by omega) c
end Go.Proofs.YtidhceebafmlkaaGreatDoor.Ca

namespace Go.Proofs.YtidhceebafmlkaaGreatDoor.Ca
open Go.RowKit Cu Tr Pm Pt
theorem up_lost {ns n1 : List Nd} {m : Nat} (g : Hung ns) (hl : (nd ns m).list = []) (hk : ∀ i, i ≠ m → (nd n1 i).kind = (nd ns i).kind) (hp : ∀ i, i ≠ m → (nd n1 i).parent = (nd ns i).parent) {s x : Nat} (hu : Up ns s x) : x ≠ m → Up n1 s x ∧ ∀ t f, stepsUp n1 t f x = stepsUp ns t f x := by
  induction hu with
  | root =>
    intro _
    refine ⟨Up.root, fun t f => ?_⟩
    cases f with
    | zero => rfl
    | succ f => rw [steps_root, steps_root]
  | @step s x p h1 h2 h3 h4 _ ih =>
    intro hx
    have hpm : p ≠ m := by
      intro e
      subst e
      have := dir_named g h1 h3 h4
      unfold tg at this
      rw [hl] at this
      simp at this
    obtain ⟨u1, u2⟩ := ih hpm
    have k1 : (nd n1 x).kind = 2 := (hk x hx).trans h3
    have p1 : (nd n1 x).parent = (p : Int) := (hp x hx).trans h4
    refine ⟨Up.step h1 (in_of x (by rw [k1]; decide)) k1 p1 u1, fun t f => ?_⟩
    cases f with
    | zero => rfl
    | succ f =>
      by_cases e : x = t
      · rw [e, steps_at, steps_at]
      · rw [steps_on n1 t f x p e h1 p1, steps_on ns t f x p e h1 h4, u2 t f]
theorem keeps_rename (a : Ac) (hc : checkP a.now a.ns = true) (hp : Okp a.ns a.p) (hq : Okp a.ns a.q) : KeepR a.rename := by
  unfold Ac.rename
  simp only
  split
  · exact keep_no ‹_›
  rename_i h
  have h := or_zero.1 (Decidable.not_not.1 h)
  have h1 := (wh_no (by decide)).1 (h (wh (nameless a.p || nameless a.q) 14) (by simp))
  have h2 := (wh_no (by decide)).1 (h (wh (isN a.here) 6) (by simp))
  rw [Bool.or_eq_false_iff] at h1
  split
  · exact keep_yes hc
  rename_i hne
  split
  · exact keep_no ‹_›
  rename_i h'
  have h' := or_zero.1 (Decidable.not_not.1 h')
  have ht := h' a.mayTakePlace (by simp)
  have hmv := h' a.mayMove (by simp)
  unfold Ac.mayMove at hmv
  have hmv := (wh_no (by decide)).1 (or_zero.1 hmv (wh (isN a.there && decide (a.q.dir ≠ a.p.dir) && decide (512 ≤ (nd a.ns a.q.dir.toNat).list.length)) 11) (by simp))
  obtain ⟨d, hd, hdr, hn, hf⟩ := hp.named h1.1
  obtain ⟨d', hd', hdr', hn', hf'⟩ := hq.named h1.2
  obtain ⟨m, hm, hm0, hml, hmk⟩ := hp.some hc h2
  have hT : (nd a.ns m).kind = 2 → (stepsUp a.ns m 33 d').2 = false ∧ (isN a.there = true ∨ isD a.there = true ∧ a.isBusy a.q.node = false) ∧ depthV a.now a.ns (d' : Int) + 1 + (a.height m : Int) ≤ 32 := by
    intro hk
    unfold Ac.mayTakePlace at ht
    have hD : isD a.here = true := by unfold Ac.here; rw [hm, Int.toNat_natCast]; exact isD_is.2 hk
    rw [if_pos hD, hm, hd', Int.toNat_natCast, Int.toNat_natCast] at ht
    have ht := or_zero.1 ht
    have t1 := (wh_no (by decide)).1 (ht (wh (stepsUp a.ns m 33 d').2 15) (by simp))
    have t2 := (wh_no (by decide)).1 (ht (wh (!isN a.there && !isD a.there) 9) (by simp))
    have t3 := (wh_no (by decide)).1 (ht (wh (isD a.there && a.isBusy a.q.node) 14) (by simp))
    have t4 := of_decide_eq_false ((wh_no (by decide)).1 (ht (wh (decide (32 < depthV a.now a.ns (d' : Int) + 1 + (a.height m : Int))) 3) (by simp)))
    refine ⟨t1, ?_, by omega⟩
    cases e1 : isN a.there with
    | true => exact .inl rfl
    | false =>
      cases e2 : isD a.there with
      | false => rw [e1, e2] at t2; cases t2
      | true => rw [e2] at t3; exact .inr ⟨rfl, t3⟩
  have hF : (nd a.ns m).kind ≠ 2 → isD a.there = false := by
    intro hk
    unfold Ac.mayTakePlace at ht
    have hD : isD a.here = false := by unfold Ac.here; rw [hm, Int.toNat_natCast]; exact isD_no.2 hk
    rw [if_neg (by rw [hD]; decide)] at ht
    exact (wh_no (by decide)).1 (or_zero.1 ht (wh (isD a.there) 8) (by simp))
  have hdp : (nd a.ns m).kind = 2 → ∃ u, Up a.ns u d' ∧ u ≤ 32 ∧ ∀ i, i < a.ns.length → (nd a.ns i).kind = 2 → (stepsUp a.ns m 33 i).2 = true → u + 1 + (stepsUp a.ns m 33 i).1 ≤ 32 := by
    intro hk
    obtain ⟨u, u1, u2, u3⟩ := deep_up hc hdr'
    have := (hT hk).2.2
    rw [u1] at this
    exact ⟨u, u2, u3, fun i hi hki hs => by have := height_leK a m i hi hki hs; omega⟩
  refine keep_yes ?_
  rw [hd, hd', hm, Int.toNat_natCast, Int.toNat_natCast, Int.toNat_natCast]
  rw [hd, hd', Int.toNat_natCast] at hmv
  have hfm := hf.symm.trans hm
  by_cases hq0 : a.q.node = 0
  · rw [if_neg (fun x => x hq0)]
    have hN : isN a.there = true := by unfold Ac.there; rw [hq0]; show isN (nd a.ns 0) = true; rw [zero_free hc]; rfl
    rw [hN, Bool.true_and] at hmv
    refine (keep_move hc hdr.2.1 hdr.2.2 hfm hm0 hdr'.2.1 hdr'.2.2 (hf'.symm.trans hq0) hn' ?_ (fun k => (hT k).1) hdp).1
    by_cases e : d' = d
    · exact .inl e
    · rw [Bool.and_eq_false_iff] at hmv
      rcases hmv with q | q
      · exact absurd (of_decide_eq_false q) (fun w => w (by omega))
      · exact .inr (by have := of_decide_eq_false q; omega)
  · rw [if_pos hq0]
    obtain ⟨m', hm', hm0', hml', hmk'⟩ : ∃ m' : Nat, a.q.node = (m' : Int) ∧ m' ≠ 0 ∧ m' < a.ns.length ∧ (nd a.ns m').kind ≠ 0 := by
      rcases dr_find hc hdr' a.q.name with h5 | ⟨x, x1, x2, x3, x4⟩
      · exact absurd (hf'.trans h5) hq0
      · exact ⟨x, hf'.trans x1, by omega, x3, by rcases x4 with e | e | ⟨e, _⟩ <;> rw [e] <;> decide⟩
    rw [hm', Int.toNat_natCast]
    have hthere : a.there = nd a.ns m' := by unfold Ac.there; rw [hm', Int.toNat_natCast]
    have hNt : isN a.there = false := by rw [hthere]; exact isN_no.2 hmk'
    rw [hthere] at hF hT hNt
    have hmm : m ≠ m' := fun e => hne (by rw [hm, hm', e])
    obtain ⟨-, -, -, -, r, -, -, -, -, k, hg⟩ := check_all hc
    have hlist : (nd a.ns m').list = [] := by
      by_cases k2 : (nd a.ns m').kind = 2
      · by_cases km : (nd a.ns m).kind = 2
        · rcases (hT km).2.1 with q | ⟨_, q⟩
          · rw [hNt] at q; cases q
          · unfold Ac.isBusy at q
            rw [hm', Int.toNat_natCast, Bool.or_eq_false_iff] at q
            exact List.length_eq_zero_iff.1 (by have := of_decide_eq_false q.1; omega)
        · have := isD_no.1 (hF km)
          exact absurd k2 this
      · exact list_none (k m') k2
    have hfm' := hf'.symm.trans hm'
    obtain ⟨c1, c2, c3⟩ := keep_remove hc hdr'.2.1 hdr'.2.2 hfm' hm0' (fun _ => hlist)
    obtain ⟨n1, hn1⟩ : ∃ n1, n1 = loseD (unlistD a.now a.ns d' a.q.name m') m' := ⟨_, rfl⟩
    rw [← hn1] at c1 c2 c3 ⊢
    have e1 : d ≠ m' := by
      intro e
      subst e
      have : findP (nd a.ns d).list a.p.name = 0 := by rw [hlist]; rfl
      omega
    have e2 : d' ≠ m' := by
      intro e
      subst e
      have : findP (nd a.ns d').list a.q.name = 0 := by rw [hlist]; rfl
      omega
    have hk1 : ∀ i, i ≠ m' → (nd n1 i).kind = (nd a.ns i).kind := fun i hi => by
      rw [c2, if_neg hi]
      split
      · rename_i q; rw [q]
      · rfl
    have hp1 : ∀ i, i ≠ m' → (nd n1 i).parent = (nd a.ns i).parent := fun i hi => by
      rw [c2, if_neg hi]
      split
      · rename_i q; rw [q]
      · rfl
    have hup : ∀ {s x : Nat}, Up a.ns s x → x ≠ m' → Up n1 s x ∧ ∀ t f, stepsUp n1 t f x = stepsUp a.ns t f x := fun hu hx => up_lost hg hlist hk1 hp1 hu hx
    have hdk : (nd n1 d).kind = 2 := (hk1 d e1).trans hdr.2.2
    have hdk' : (nd n1 d').kind = 2 := (hk1 d' e2).trans hdr'.2.2
    have hlost : (nd n1 m').kind ≠ 2 := by
      rw [c2, if_pos rfl]
      unfold lost
      split
      · rename_i q; exact q.2
      · decide
    have hl' : (nd n1 d').list = delE (nd a.ns d').list (posE (nd a.ns d').list a.q.name) := by rw [c2, if_neg e2, if_pos rfl]
    have hnn : d = d' → a.p.name ≠ a.q.name := fun e en => hmm (by
      subst e
      rw [en] at hfm
      have := hfm.symm.trans hfm'
      omega)
    have f1 : findP (nd n1 d).list a.p.name = (m : Int) := by
      by_cases e : d = d'
      · have q := hnn e
        subst e
        rw [hl', find_del (dir_listP (k d) hdr.2.2) hfm' (by omega), if_neg q]
        exact hfm
      · rw [c2, if_neg e1, if_neg e]; exact hfm
    have f2 : findP (nd n1 d').list a.q.name = 0 := by
      rw [hl', find_del (dir_listP (k d') hdr'.2.2) hfm' (by omega), if_pos rfl]
    have hmk1 : (nd n1 m).kind = (nd a.ns m).kind := hk1 m hmm
    refine (keep_move c1 (in_of d (by rw [hdk]; decide)) hdk f1 hm0 (in_of d' (by rw [hdk']; decide)) hdk' f2 hn' ?_ (fun q => ?_) (fun q => ?_)).1
    · right
      obtain ⟨p1, p2, p3, -, -, -, -, hpe⟩ := name_known hc hdr'.2.1 hdr'.2.2 hfm' hm0'
      have := hpe.length_eq
      have hlen := (listP_iff.1 (dir_listP (k d') hdr'.2.2)).1
      rw [hl']
      simp only [List.length_cons] at this
      omega
    · rw [hmk1] at q
      obtain ⟨u, u1, -⟩ := hdp q
      rw [(hup u1 e2).2]
      exact (hT q).1
    · rw [hmk1] at q
      obtain ⟨u, u1, u2, u3⟩ := hdp q
      refine ⟨u, (hup u1 e2).1, u2, fun i hi hki hs => ?_⟩
      have hi' : i ≠ m' := fun e => hlost (e ▸ hki)
      have hki' := (hk1 i hi').symm.trans hki
      have hil : i < a.ns.length := in_of i (by rw [hki']; decide)
      obtain ⟨s, -, hu⟩ := (hg.good i hil hki').2
      rw [(hup hu hi').2] at hs ⊢
      exact u3 i hil hki' hs
end Go.Proofs.YtidhceebafmlkaaGreatDoor.Ca
