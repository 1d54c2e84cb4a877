import Derived.Test.YtidhceebafmlkaaGreatDoorCaKp8
import Derived.Test.YtidhceebafmlkaaGreatDoorCaPlain
import Derived.Test.YtidhceebafmlkaaGreatDoorPtFind
import Derived.Test.YtidhceebafmlkaaGreatDoorCaMv1
import Derived.Test.YtidhceebafmlkaaGreatDoorCaLivesP
import Derived.Test.YtidhceebafmlkaaGreatDoorTrGreat
import Derived.Test.YtidhceebafmlkaaGreatDoorTrList
namespace Go.Proofs.YtidhceebafmlkaaGreatDoor.Ca
open Go.RowKit Cu Tr Pm Pt
def Told (x y : Nd) : Prop := x.kind = y.kind ∧ x.data = y.data ∧ x.mode = y.mode ∧ x.links = y.links ∧ x.target = y.target ∧ x.list = y.list ∧ x.user = y.user ∧ x.group = y.group ∧ x.time = y.time
def Kept (x y : Nd) : Prop := x.kind = y.kind ∧ x.mode = y.mode ∧ x.user = y.user ∧ x.group = y.group
theorem moved_in {now : Int} {ns : List Nd} (hc : checkP now ns = true) {d m : Nat} {s s' : ByteArray} (hd : d < ns.length) (hk : (nd ns d).kind = 2) (hm : findP (nd ns d).list s = (m : Int)) (h0 : m ≠ 0) (hs : findP (nd ns d).list s' = 0) (hn : nameP s' = true) :
    Told (nd (listD now (unlistD now ns d s m) d s' m) m) (nd ns m) ∧ Kept (nd (listD now (unlistD now ns d s m) d s' m) d) (nd ns d) ∧ findP (nd (listD now (unlistD now ns d s m) d s' m) d).list s' = (m : Int) ∧ findP (nd (listD now (unlistD now ns d s m) d s' m) d).list s = 0 := by
  obtain ⟨-, -, -, -, -, -, -, -, -, k, hg⟩ := check_all hc
  obtain ⟨p1, p2, p3, hm1, hml, hmk, hmp, hpe⟩ := name_known hc hd hk hm h0
  have hdm : d ≠ m := by
    intro e
    subst e
    obtain ⟨_, s, _, hu⟩ := hg.good d hd hk
    exact no_loop hu hm1 (hmp hk)
  have hne := entries_ne hc hd hk hs
  have hL := dir_listP (k d) hk
  have hss : s ≠ s' := fun e => by
    subst e
    rw [hm] at hs
    omega
  obtain ⟨u, hu⟩ : ∃ u, u = unlistD now ns d s m := ⟨_, rfl⟩
  have hul : u.length = ns.length := by rw [hu, unlistD_len]
  have hun : ∀ j, nd u j = if j = d then { nd ns d with list := delE (nd ns d).list (posE (nd ns d).list s), time := now, links := (nd ns d).links - if (nd ns m).kind = 2 then 1 else 0 } else nd ns j := by
    intro j
    rw [hu, nd_unlistD _ _ _ _ _ hd, p3]
    simp only [if_true]
  have hum : nd u m = nd ns m := by rw [hun, if_neg (fun e => hdm e.symm)]
  have hud := hun d
  rw [if_pos rfl] at hud
  have hlu : (nd u d).list = delE (nd ns d).list (posE (nd ns d).list s) := by rw [hud]
  have hlt : (nd u d).list.length < 512 := by
    have h1 := (listP_iff.1 hL).1
    have h2 := hpe.length_eq
    rw [hlu]
    simp only [List.length_cons] at h2
    omega
  have hfi := find_ins (es := (nd u d).list) (by rw [hlu]; exact del_list hL _) (fun e he => hne e ((del_subl _ _).subset (hlu ▸ he))) hn hlt (m : Int)
  rw [← hu]
  have hx := nd_listD now u d s' m (by omega) (by omega) hdm
  have hxm := hx m
  rw [if_neg (fun e => hdm e.symm), hum] at hxm
  have hxd := hx d
  rw [if_pos rfl] at hxd
  refine ⟨?_, ?_, ?_, ?_⟩
  · rw [hxm]
    split
    · exact ⟨rfl, rfl, rfl, rfl, rfl, rfl, rfl, rfl, rfl⟩
    · exact ⟨rfl, rfl, rfl, rfl, rfl, rfl, rfl, rfl, rfl⟩
  · rw [hxd, hud]
    exact ⟨rfl, rfl, rfl, rfl⟩
  · rw [hxd]
    show findP (insE _ _ _) s' = _
    rw [hfi, if_pos rfl]
  · rw [hxd]
    show findP (insE _ _ _) s = _
    rw [hfi, if_neg hss, hlu, find_del hL hm (by omega), if_pos rfl]
theorem rename_is (a : Ac) (hc : checkP a.now a.ns = true) {d : Nat} (hdr : Dr a.ns d) (hpd : a.p.dir = (d : Int)) (hqd : a.q.dir = (d : Int)) (hf : a.p.node = findP (nd a.ns d).list a.p.name) (hf' : a.q.node = findP (nd a.ns d).list a.q.name) (hn' : nameP a.q.name = true) (hz : a.rename.2 = 0) :
    ∃ m : Nat, a.p.node = (m : Int) ∧ m ≠ 0 ∧ (nd a.ns m).kind ≠ 0 ∧ ((a.q.node = (m : Int) ∧ a.rename = yes a.now a.ns) ∨ (∃ ms, a.rename = yes a.now ms ∧ Told (nd ms m) (nd a.ns m) ∧ Kept (nd ms d) (nd a.ns d) ∧ findP (nd ms d).list a.q.name = (m : Int) ∧ findP (nd ms d).list a.p.name = 0)) := by
  unfold Ac.rename at hz ⊢
  simp only at hz ⊢
  split at hz
  · exact absurd hz ‹_›
  rename_i h
  rw [if_neg h]
  have h := or_zero.1 (Decidable.not_not.1 h)
  have h2 := (wh_no (by decide)).1 (h (wh (isN a.here) 6) (by simp))
  obtain ⟨m, hm, hm0, hml, hmk⟩ : ∃ m : Nat, a.p.node = (m : Int) ∧ m ≠ 0 ∧ m < a.ns.length ∧ (nd a.ns m).kind ≠ 0 := by
    rcases dr_find hc hdr a.p.name with h5 | ⟨x, x1, x2, x3, x4⟩
    · unfold Ac.here at h2
      rw [hf, h5] at h2
      exact absurd h2 (by show ¬ isN (nd a.ns 0) = false; rw [zero_free hc]; decide)
    · exact ⟨x, hf.trans x1, by omega, x3, by rcases x4 with e | e | ⟨e, _⟩ <;> rw [e] <;> decide⟩
  refine ⟨m, hm, hm0, hmk, ?_⟩
  by_cases hpq : a.p.node = a.q.node
  · rw [if_pos hpq]
    exact .inl ⟨hpq.symm.trans hm, rfl⟩
  · right
    rw [if_neg hpq] at hz ⊢
    split at hz
    · exact absurd hz ‹_›
    rename_i h'
    rw [if_neg h']
    have h' := or_zero.1 (Decidable.not_not.1 h')
    have ht := h' a.mayTakePlace (by simp)
    refine ⟨_, rfl, ?_⟩
    rw [hpd, hqd, hm, Int.toNat_natCast, Int.toNat_natCast]
    have hfm := hf.symm.trans hm
    by_cases hq0 : a.q.node = 0
    · rw [if_neg (fun x => x hq0)]
      exact moved_in hc hdr.2.1 hdr.2.2 hfm hm0 (hf'.symm.trans hq0) hn'
    · rw [if_pos hq0]
      obtain ⟨m', hm', hm0', hml', hmk'⟩ : ∃ m' : Nat, a.q.node = (m' : Int) ∧ m' ≠ 0 ∧ m' < a.ns.length ∧ (nd a.ns m').kind ≠ 0 := by
        rcases dr_find hc hdr a.q.name with h5 | ⟨x, x1, x2, x3, x4⟩
        · exact absurd (hf'.trans h5) hq0
        · exact ⟨x, hf'.trans x1, by omega, x3, by rcases x4 with e | e | ⟨e, _⟩ <;> rw [e] <;> decide⟩
      rw [hm', Int.toNat_natCast]
      have hthere : a.there = nd a.ns m' := by unfold Ac.there; rw [hm', Int.toNat_natCast]
      have hNt : isN a.there = false := by rw [hthere]; exact isN_no.2 hmk'
      have hmm : m ≠ m' := fun e => hpq (by rw [hm, hm', e])
      obtain ⟨-, -, -, -, -, -, -, -, -, k, hg⟩ := check_all hc
      have hlist : (nd a.ns m').list = [] := by
        by_cases k2 : (nd a.ns m').kind = 2
        · have hD : isD a.there = true := by rw [hthere]; exact isD_is.2 k2
          unfold Ac.mayTakePlace at ht
          split at ht
          · have t3 := (wh_no (by decide)).1 (or_zero.1 ht (wh (isD a.there && a.isBusy a.q.node) 14) (by simp))
            rw [hD, Bool.true_and] at t3
            unfold Ac.isBusy at t3
            rw [hm', Int.toNat_natCast, Bool.or_eq_false_iff] at t3
            exact List.length_eq_zero_iff.1 (by have := of_decide_eq_false t3.1; omega)
          · have := (wh_no (by decide)).1 (or_zero.1 ht (wh (isD a.there) 8) (by simp))
            rw [hD] at this
            cases this
        · exact list_none (k m') k2
      have hfm' := hf'.symm.trans hm'
      obtain ⟨c1, c2, c3⟩ := keep_remove hc hdr.2.1 hdr.2.2 hfm' hm0' (fun _ => hlist)
      obtain ⟨n1, hn1⟩ : ∃ n1, n1 = loseD (unlistD a.now a.ns d a.q.name m') m' := ⟨_, rfl⟩
      rw [← hn1] at c1 c2 c3 ⊢
      have e1 : d ≠ m' := by
        intro e
        subst e
        have : findP (nd a.ns d).list a.p.name = 0 := by rw [hlist]; rfl
        omega
      have hmd : m ≠ d := by
        intro e
        subst e
        obtain ⟨_, _, _, q1, _, _, q2, _⟩ := name_known hc hdr.2.1 hdr.2.2 hfm hm0
        obtain ⟨_, s, _, hu⟩ := hg.good m hdr.2.1 hdr.2.2
        exact no_loop hu q1 (q2 hdr.2.2)
      have hxd := c2 d
      rw [if_neg e1, if_pos rfl] at hxd
      have hxm := c2 m
      rw [if_neg hmm, if_neg hmd] at hxm
      have hdk : (nd n1 d).kind = 2 := by rw [hxd]; exact hdr.2.2
      have hnn : a.p.name ≠ a.q.name := fun en => hmm (by
        rw [en] at hfm
        have := hfm.symm.trans hfm'
        omega)
      have hl' : (nd n1 d).list = delE (nd a.ns d).list (posE (nd a.ns d).list a.q.name) := by rw [hxd]
      have f1 : findP (nd n1 d).list a.p.name = (m : Int) := by
        rw [hl', find_del (dir_listP (k d) hdr.2.2) hfm' (by omega), if_neg hnn]
        exact hfm
      have f2 : findP (nd n1 d).list a.q.name = 0 := by
        rw [hl', find_del (dir_listP (k d) hdr.2.2) hfm' (by omega), if_pos rfl]
      obtain ⟨g1, g2, g3, g4⟩ := moved_in c1 (in_of d (by rw [hdk]; decide)) hdk f1 hm0 f2 hn'
      rw [hxm] at g1
      refine ⟨g1, ?_, g3, g4⟩
      have g5 : Kept (nd n1 d) (nd a.ns d) := by rw [hxd]; exact ⟨rfl, rfl, rfl, rfl⟩
      exact ⟨g2.1.trans g5.1, g2.2.1.trans g5.2.1, g2.2.2.1.trans g5.2.2.1, g2.2.2.2.trans g5.2.2.2⟩
end Go.Proofs.YtidhceebafmlkaaGreatDoor.Ca

namespace Go.Proofs.YtidhceebafmlkaaGreatDoor.Ca
open Go.RowKit Cu Tr Pm Pt
theorem do_parts {now : Int} {ns : List Nd} {c : Cl} (hok : (doP now ns c).2 = 0) : mayBeP c = true ∧ someP now ns c.env = true ∧ (findBoth now ns c).2 = 0 ∧ doP now ns c = (Ac.mk now ns c (findBoth now ns c).1.1 (findBoth now ns c).1.2).does := by
  unfold doP at hok ⊢
  split at hok
  · exact absurd hok (by decide)
  rename_i h
  rw [if_neg h]
  split at hok
  · exact absurd hok ‹_›
  rename_i hf
  rw [if_neg hf]
  refine ⟨?_, ?_, Decidable.not_not.1 hf, rfl⟩
  · cases e : mayBeP c with | true => rfl | false => exact absurd (.inl e) h
  · cases e : someP now ns c.env with | true => rfl | false => exact absurd (.inr e) h
theorem both_path {now : Int} {ns : List Nd} {c : Cl} (hl : (rowOf c.kind).2.1 = true) (hf : (findBoth now ns c).2 = 0) : findA now ns c.env c.path (rowOf c.kind).2.2 = ((findBoth now ns c).1.1, 0) := by
  have hA : (findA now ns c.env c.path (rowOf c.kind).2.2).2 = 0 := by
    refine Decidable.byContradiction fun q => ?_
    unfold findBoth at hf
    simp only at hf
    rw [if_pos hl, if_pos q] at hf
    exact q hf
  have hP : (findBoth now ns c).1.1 = (findA now ns c.env c.path (rowOf c.kind).2.2).1 := by
    unfold findBoth
    simp only
    rw [if_pos hl, if_neg (fun q => q hA)]
    split <;> rfl
  rw [hP, ← hA]
theorem both_other {now : Int} {ns : List Nd} {c : Cl} (hk : c.kind = 6 ∨ c.kind = 7 ∨ c.kind = 8) (hf : (findBoth now ns c).2 = 0) : findA now ns c.env c.other false = ((findBoth now ns c).1.2, 0) := by
  have hA : (if (rowOf c.kind).2.1 then findA now ns c.env c.path (rowOf c.kind).2.2 else (pz, 0)).2 = 0 := by
    refine Decidable.byContradiction fun q => ?_
    unfold findBoth at hf
    simp only at hf
    rw [if_pos q] at hf
    exact q hf
  unfold findBoth at hf ⊢
  simp only at hf ⊢
  rw [if_neg (fun q => q hA), if_pos hk] at hf ⊢
  rw [← hf]
end Go.Proofs.YtidhceebafmlkaaGreatDoor.Ca

namespace Go.Proofs.YtidhceebafmlkaaGreatDoor.Ca
open Go.RowKit Cu Tr Pm Pt
theorem kept_may {x y : Nd} (h : Kept x y) (e : Ev) (k : Int) : mayP x e k = mayP y e k := by
  obtain ⟨h1, h2, h3, h4⟩ := h
  unfold mayP passP bitsP
  simp only [h1, h2, h3, h4]
theorem some_kept {now : Int} {ns ms : List Nd} {e : Ev} (he : someP now ns e = true) (hc : checkP now ms = true) {d : Nat} (hed : e.dir = (d : Int)) (hdr : Dr ns d) (h : Kept (nd ms d) (nd ns d)) : someP now ms e = true ∧ Dr ms d := by
  have hkd : (nd ms d).kind = 2 := h.1.trans hdr.2.2
  have hdl : d < ms.length := in_of d (by rw [hkd]; decide)
  have hd0 := hdr.1
  refine ⟨?_, hd0, hdl, hkd⟩
  rw [someP_is] at he ⊢
  simp only [Bool.and_eq_true, decide_eq_true_eq] at he ⊢
  obtain ⟨⟨⟨⟨g1, g2⟩, g3⟩, g4⟩, -⟩ := he
  refine ⟨⟨⟨⟨g1, g2⟩, g3⟩, g4⟩, ?_⟩
  rw [hed, Int.toNat_natCast, hkd]
  exact ⟨⟨⟨⟨hc, by omega⟩, by omega⟩, by decide⟩, rfl⟩
theorem look_at {now : Int} {ns : List Nd} {e : Ev} {s : ByteArray} {d m : Nat} {b : Bool} (h : findA now ns e s false = (⟨(d : Int), s, (m : Int), b⟩, 0)) (h0 : m ≠ 0) : lookP now ns e s false = (((m : Int), nd ns m), 0) := by
  unfold lookP
  rw [h]
  simp only
  rw [if_neg (fun w => w rfl), if_neg (by omega), Int.toNat_natCast]
theorem look_none {now : Int} {ns : List Nd} {e : Ev} {s : ByteArray} {p : Pl} (h : findA now ns e s false = (p, 0)) (h0 : p.node = 0) : (lookP now ns e s false).2 ≠ 0 := by
  unfold lookP
  rw [h]
  simp only
  rw [if_neg (fun w => w rfl), if_pos h0]
  show ¬ (6 : Int) = 0
  decide
theorem move_ok {now : Int} {ns : List Nd} {e : Ev} {s t : ByteArray} (h1 : hasB s 47 = false) (h2 : hasB t 47 = false) (hok : (doP now ns ⟨8, s, t, 0, 0, 0, 0, [], e⟩).2 = 0) :
    (lookP now ns e s false).2 = 0 ∧ (doP now ns ⟨8, s, t, 0, 0, 0, 0, [], e⟩).1.2 = now ∧ (lookP now (doP now ns ⟨8, s, t, 0, 0, 0, 0, [], e⟩).1.1 e t false).2 = 0 ∧ (lookP now (doP now ns ⟨8, s, t, 0, 0, 0, 0, [], e⟩).1.1 e t false).1.1 = (lookP now ns e s false).1.1
    ∧ Told (lookP now (doP now ns ⟨8, s, t, 0, 0, 0, 0, [], e⟩).1.1 e t false).1.2 (lookP now ns e s false).1.2
    ∧ (((lookP now ns e t false).2 = 0 ∧ (lookP now ns e s false).1.1 = (lookP now ns e t false).1.1) ∨ (lookP now (doP now ns ⟨8, s, t, 0, 0, 0, 0, [], e⟩).1.1 e s false).2 ≠ 0) := by
  obtain ⟨hm, he, hf, hdo⟩ := do_parts hok
  have hfa := both_path (c := ⟨8, s, t, 0, 0, 0, 0, [], e⟩) rfl hf
  have hfb := both_other (c := ⟨8, s, t, 0, 0, 0, 0, [], e⟩) (.inr (.inr rfl)) hf
  have hc := (some_own he).2.2
  rw [hdo] at hok ⊢
  generalize (findBoth now ns ⟨8, s, t, 0, 0, 0, 0, [], e⟩).1.2 = q at *
  generalize (findBoth now ns ⟨8, s, t, 0, 0, 0, 0, [], e⟩).1.1 = p at *
  replace hfa : findA now ns e s false = (p, 0) := hfa
  replace hfb : findA now ns e t false = (q, 0) := hfb
  have hp : Okp ns p := by have := find_ok (now := now) (ns := ns) (e := e) (s := s) (f := false) (by rw [hfa]); rwa [hfa] at this
  have hq : Okp ns q := by have := find_ok (now := now) (ns := ns) (e := e) (s := t) (f := false) (by rw [hfb]); rwa [hfb] at this
  have hd0 : (Ac.mk now ns ⟨8, s, t, 0, 0, 0, 0, [], e⟩ p q).does = (Ac.mk now ns ⟨8, s, t, 0, 0, 0, 0, [], e⟩ p q).rename := by
    unfold Ac.does
    rw [if_neg (show ¬ (8 : UInt8) = 1 by decide), if_neg (show ¬ (8 : UInt8) = 2 by decide), if_neg (show ¬ (8 : UInt8) = 3 by decide), if_neg (show ¬ (8 : UInt8) = 4 by decide), if_neg (show ¬ (8 : UInt8) = 5 by decide), if_neg (show ¬ (8 : UInt8) = 6 by decide), if_neg (show ¬ (8 : UInt8) = 7 by decide), if_pos rfl]
  rw [hd0] at hok ⊢
  obtain ⟨-, a0, a1, a2, d, hed, hdr, hmay, hA⟩ := find_one h1 hfa
  obtain ⟨-, b0, b1, b2, d', hed', -, -, hB⟩ := find_one h2 hfb
  obtain rfl : d = d' := by omega
  obtain ⟨a, ha⟩ : ∃ a, a = Ac.mk now ns ⟨8, s, t, 0, 0, 0, 0, [], e⟩ p q := ⟨_, rfl⟩
  have n1 : a.now = now := by rw [ha]
  have n2 : a.ns = ns := by rw [ha]
  have n4 : a.p = p := by rw [ha]
  have n5 : a.q = q := by rw [ha]
  rw [← ha] at hok ⊢
  have hnl : nameless p = false ∧ nameless q = false := by
    have hz := hok
    unfold Ac.rename at hz
    simp only at hz
    split at hz
    · exact absurd hz ‹_›
    rename_i h
    have h := (wh_no (by decide)).1 (or_zero.1 (Decidable.not_not.1 h) (wh (nameless a.p || nameless a.q) 14) (by simp))
    rw [Bool.or_eq_false_iff, n4, n5] at h
    exact h
  have hA : dotsP s = false ∧ p = ⟨(d : Int), s, findP (nd ns d).list s, false⟩ := hA.resolve_left fun w => by
    have := hnl.1
    unfold nameless at this
    rw [w.2] at this
    cases this
  have hB : dotsP t = false ∧ q = ⟨(d : Int), t, findP (nd ns d).list t, false⟩ := hB.resolve_left fun w => by
    have := hnl.2
    unfold nameless at this
    rw [w.2] at this
    cases this
  obtain ⟨-, -, -, hnt, -⟩ := hq.named hnl.2
  obtain ⟨m, m1, m2, m3, m4⟩ := rename_is a (by rw [n1, n2]; exact hc) (d := d) (by rw [n2]; exact hdr) (by rw [n4, hA.2]) (by rw [n5, hB.2]) (by rw [n2, n4, hA.2]) (by rw [n2, n5, hB.2]) (by rw [n5]; exact hnt) hok
  rw [n4] at m1
  rw [n2] at m3
  have hfm : findP (nd ns d).list s = (m : Int) := by rw [hA.2] at m1; exact m1
  have hLA : lookP now ns e s false = (((m : Int), nd ns m), 0) := look_at (b := false) (by rw [hfa, hA.2, hfm]) m2
  rw [hLA]
  rcases m4 with ⟨q1, q2⟩ | ⟨ms, q2, q3, q4, q5, q6⟩
  · have hfn : findP (nd ns d).list t = (m : Int) := by rw [n5, hB.2] at q1; exact q1
    have hLB : lookP now ns e t false = (((m : Int), nd ns m), 0) := look_at (b := false) (by rw [hfb, hB.2, hfn]) m2
    rw [q2, n1, n2]
    show _ ∧ _ ∧ (lookP now ns e t false).2 = 0 ∧ _
    simp only [yes]
    rw [hLB]
    exact ⟨trivial, trivial, rfl, rfl, ⟨rfl, rfl, rfl, rfl, rfl, rfl, rfl, rfl, rfl⟩, .inl ⟨rfl, rfl⟩⟩
  · have hkeep := keeps_rename a (by rw [n1, n2]; exact hc) (by rw [n2, n4]; exact hp) (by rw [n2, n5]; exact hq)
    rw [q2, n1] at hkeep ⊢
    rw [n2] at q3 q4
    rw [n5, hB.2] at q5
    rw [n4, hA.2] at q6
    simp only at q5 q6
    have hcm : checkP now ms = true := by
      rcases hkeep with ⟨_, w⟩ | ⟨w, _⟩
      · exact w
      · exact absurd rfl w
    obtain ⟨hsm, hdm⟩ := some_kept he hcm hed hdr q4
    have hmy : mayP (nd ms d) e 1 = true := by rw [kept_may q4]; exact hmay
    have hLC : lookP now ms e t false = (((m : Int), nd ms m), 0) := look_at (b := false) (by rw [find_at h2 hsm b0 b1 b2 hed hdm hmy hB.1, q5]) m2
    have hLD := look_none (find_at h1 hsm a0 a1 a2 hed hdm hmy hA.1) q6
    simp only [yes]
    rw [hLC]
    exact ⟨trivial, trivial, rfl, rfl, q3, .inr hLD⟩
end Go.Proofs.YtidhceebafmlkaaGreatDoor.Ca

namespace Go.Proofs.YtidhceebafmlkaaGreatDoor.Ca
open Go.RowKit Cu Tr Pm Pt
structure Sq (w W : World) (T E R : Nat) (tv ev : Array Value) : Prop where
  bel : Below w.heap.size w W
  tbox : W.heap[T]? = some (.cells tv 24 (0, 0))
  ebox : W.heap[E]? = some (.cells ev 32 (0, 0))
  rbox : W.heap[R]? = some (.cells zStat 67 (0, 0))
  leR : w.heap.size ≤ R
theorem Sq.below {w W W' : World} {T E R : Nat} {tv ev : Array Value} (h : Sq w W T E R tv ev) (hb : Below W.heap.size W W') : Sq w W' T E R tv ev :=
  ⟨h.bel.trans (hb.mono h.bel.size), (hb.block _ (Array.getElem?_eq_some_iff.1 h.tbox).1).trans h.tbox, (hb.block _ (Array.getElem?_eq_some_iff.1 h.ebox).1).trans h.ebox, (hb.block _ (Array.getElem?_eq_some_iff.1 h.rbox).1).trans h.rbox, h.leR⟩
theorem Sq.fz {w W : World} {T E R : Nat} {tv ev : Array Value} (h : Sq w W T E R tv ev) (j : Nat) : W.frozen? ⟨R, j, none⟩ = false := by simp [World.frozen?, h.rbox]
theorem Sq.first (w : World) (tv ev : Array Value) : Sq w (((w.alloc (.cells tv 24)).alloc (.cells ev 32)).alloc (.cells zStat 67)) w.heap.size (w.heap.size + 1) (w.heap.size + 2) tv ev := by
  obtain ⟨w1, h1⟩ : ∃ w1, w1 = w.alloc (.cells tv 24) := ⟨_, rfl⟩
  obtain ⟨w2, h2⟩ : ∃ w2, w2 = w1.alloc (.cells ev 32) := ⟨_, rfl⟩
  have e1 : w1.heap.size = w.heap.size + 1 := by rw [h1]; simp
  have e2 : w2.heap.size = w.heap.size + 2 := by rw [h2]; simp [e1]
  have a1 : w1.heap[w.heap.size]? = some (.cells tv 24 (0, 0)) := by rw [h1]; exact heap_alloc_new w _
  have a2 : w2.heap[w.heap.size + 1]? = some (.cells ev 32 (0, 0)) := by rw [h2, ← e1]; exact heap_alloc_new w1 _
  have b1 : Below w.heap.size w w1 := by rw [h1]; exact al_below w _
  have b2 : Below w1.heap.size w1 w2 := by rw [h2]; exact al_below w1 _
  have b3 := al_below w2 (.cells zStat 67)
  rw [← h1, ← h2]
  refine ⟨(b1.trans (b2.mono b1.size)).trans (b3.mono (by omega)), ?_, ?_, ?_, by omega⟩
  · rw [b3.block _ (by omega), b2.block _ (by omega)]; exact a1
  · rw [b3.block _ (by omega)]; exact a2
  · rw [← e2]; exact heap_alloc_new w2 _
theorem Sq.cells {w W : World} {T E R : Nat} {x : Option Addr} {n cap : Nat} {now : Int} {e : Ev} (h : Sq w W T E R #[.slice x n cap, .int .i64 now] (ea e)) :
    (W.cell? ⟨T, 0, none⟩ = some (.slice x n cap) ∧ W.cell? ⟨T, 1, none⟩ = some (.int .i64 now)) ∧ (W.cell? ⟨E, 0, none⟩ = some (.int .i64 e.user) ∧ W.cell? ⟨E, 1, none⟩ = some (.int .i64 e.group) ∧ W.cell? ⟨E, 2, none⟩ = some (.int .i64 e.mask) ∧ W.cell? ⟨E, 3, none⟩ = some (.int .i64 e.dir)) ∧
    (W.cell? ⟨R, 0, none⟩ = some (.int .i64 0) ∧ W.cell? ⟨R, 1, none⟩ = some (.int .u8 0) ∧ W.cell? ⟨R, 2, none⟩ = some (.int .i64 0) ∧ W.cell? ⟨R, 3, none⟩ = some (.int .i64 0) ∧ W.cell? ⟨R, 4, none⟩ = some (.int .i64 0) ∧ W.cell? ⟨R, 5, none⟩ = some (.int .i64 0) ∧ W.cell? ⟨R, 6, none⟩ = some (.int .i64 0) ∧ W.cell? ⟨R, 7, none⟩ = some (.int .i64 0)) :=
  ⟨⟨cell_of_row _ _ _ _ _ _ h.tbox, cell_of_row _ _ _ _ _ _ h.tbox⟩, ⟨cell_of_row _ _ _ _ _ _ h.ebox, cell_of_row _ _ _ _ _ _ h.ebox, cell_of_row _ _ _ _ _ _ h.ebox, cell_of_row _ _ _ _ _ _ h.ebox⟩,
    cell_of_row _ _ _ _ _ _ h.rbox, cell_of_row _ _ _ _ _ _ h.rbox, cell_of_row _ _ _ _ _ _ h.rbox, cell_of_row _ _ _ _ _ _ h.rbox, cell_of_row _ _ _ _ _ _ h.rbox, cell_of_row _ _ _ _ _ _ h.rbox, cell_of_row _ _ _ _ _ _ h.rbox, cell_of_row _ _ _ _ _ _ h.rbox⟩
theorem set8_below {N : Nat} {w W : World} (h : Below N w W) {R : Nat} (hR : N ≤ R) (a0 a1 a2 a3 a4 a5 a6 a7 : Value) : Below N w ((((((((W.setCell ⟨R, 0, none⟩ a0).setCell ⟨R, 1, none⟩ a1).setCell ⟨R, 2, none⟩ a2).setCell ⟨R, 3, none⟩ a3).setCell ⟨R, 4, none⟩ a4).setCell ⟨R, 5, none⟩ a5).setCell ⟨R, 6, none⟩ a6).setCell ⟨R, 7, none⟩ a7) :=
  (((((((h.setCell (p := ⟨R, 0, none⟩) hR _).setCell (p := ⟨R, 1, none⟩) hR _).setCell (p := ⟨R, 2, none⟩) hR _).setCell (p := ⟨R, 3, none⟩) hR _).setCell (p := ⟨R, 4, none⟩) hR _).setCell (p := ⟨R, 5, none⟩) hR _).setCell (p := ⟨R, 6, none⟩) hR _).setCell (p := ⟨R, 7, none⟩) hR _
def cstatV (now : Int) (ns : List Nd) (e : Ev) (s : ByteArray) (f : Bool) : Value := if (lookP now ns e s f).2 ≠ 0 then .tuple #[.agg zStat, .int .i64 (lookP now ns e s f).2] else .tuple #[.agg (vStat (lookP now ns e s f).1.1 (lookP now ns e s f).1.2), .int .i64 0]
theorem look_stat {now : Int} {ns : List Nd} {e : Ev} {s : ByteArray} {f : Bool} (h : (lookP now ns e s f).2 = 0) : statV now ns (lookP now ns e s f).1.1 = .tuple #[.agg (vStat (lookP now ns e s f).1.1 (lookP now ns e s f).1.2), .int .i64 0] := by
  obtain ⟨hc, m, hm0, hml, hf, hfn, hl⟩ := look_ok h
  have hk : (nd ns m).kind ≠ 0 := by
    obtain ⟨m', h1, -, h3⟩ := (find_ok hf).node hc
    have : m' = m := by omega
    subst this
    exact h3.resolve_left hm0
  rw [hl]
  unfold statV
  have hn : nodeP now ns (m : Int) = true := by
    unfold nodeP
    rw [hc, Int.toNat_natCast]
    simp [hk]
    omega
  rw [if_pos hn, Int.toNat_natCast]
set_option maxRecDepth 100000 in
set_option maxHeartbeats 4000000 in
theorem cstat_any (x : Option Addr) (n cap : Nat) (now : Int) (ns : List Nd) (e : Ev) (s : ByteArray) (f : Bool) (w : World) (h : Ng w x n cap ns) (hs : Sm ns) (hsz : s.size ≤ 1000000000) :
    Calls Tryz.prog 26 #[.agg #[.slice x n cap, .int .i64 now], .agg (ea e), .string s, .bool f] w fun r w' => r = .returned (cstatV now ns e s f) ∧ Below w.heap.size w w' := by
  have HLK : Hid (∀ W, Below w.heap.size w W → Calls Tryz.prog 95 #[.agg #[.slice x n cap, .int .i64 now], .agg (ea e), .string s, .bool f] W fun r w' => (∃ v, r = .returned (.tuple #[.int .i64 (lookP now ns e s f).1.1, v, .int .i64 (lookP now ns e s f).2]) ∧ IsNd w' v (lookP now ns e s f).1.2) ∧ Below W.heap.size W w') := fun W hW => look_any x n cap now ns e s f W (h.below hW) hs hsz
  have HST : Hid (∀ W, Below w.heap.size w W → (lookP now ns e s f).2 = 0 → Calls Tryz.prog 99 #[.agg #[.slice x n cap, .int .i64 now], .int .i64 (lookP now ns e s f).1.1] W fun r w' => r = .returned (.tuple #[.agg (vStat (lookP now ns e s f).1.1 (lookP now ns e s f).1.2), .int .i64 0]) ∧ Below W.heap.size W w') := fun W hW h0 => by
    have := stat_any x n cap ns now (lookP now ns e s f).1.1 W (h.below hW) hs
    rwa [look_stat h0] at this
  obtain ⟨V, hV⟩ : ∃ V, V = cstatV now ns e s f := ⟨_, rfl⟩
  have HV : Hid (V = if (lookP now ns e s f).2 ≠ 0 then .tuple #[.agg zStat, .int .i64 (lookP now ns e s f).2] else .tuple #[.agg (vStat (lookP now ns e s f).1.1 (lookP now ns e s f).1.2), .int .i64 0]) := hV
  rw [← hV]
  clear hV h hs hsz
  generalize lookP now ns e s f = L at *
  obtain ⟨w3, hw3⟩ : ∃ w3, w3 = ((w.alloc (.cells #[.slice x n cap, .int .i64 now] 24)).alloc (.cells (ea e) 32)).alloc (.cells zStat 67) := ⟨_, rfl⟩
  have HQ : Hid (Sq w w3 w.heap.size (w.heap.size + 1) (w.heap.size + 2) #[.slice x n cap, .int .i64 now] (ea e)) := by rw [hw3]; exact Sq.first w _ _
  have HW3 := hide hw3
  clear hw3
  go_enter Tryz.func26, Tryz.ntmps26
  go_upto_region 1 with fail
  rw [← uh HW3]
  clear HW3
  obtain ⟨T, hT⟩ : ∃ T, T = w.heap.size := ⟨_, rfl⟩
  obtain ⟨E, hE⟩ : ∃ E, E = w.heap.size + 1 := ⟨_, rfl⟩
  obtain ⟨R, hR⟩ : ∃ R, R = w.heap.size + 2 := ⟨_, rfl⟩
  rw [← hR, ← hE, ← hT] at HQ ⊢
  clear hT hE hR
  obtain ⟨⟨t0, t1⟩, ⟨e0, e1, e2, e3⟩, r0, r1, r2, r3, r4, r5, r6, r7⟩ := Sq.cells (uh HQ)
  go_wp2_with fail
  refine (uh HLK _ (uh HQ).bel).mono ?_
  rintro e4 w4 ⟨⟨v, rfl, da, ec, la, lc, hv, -, -⟩, hb4⟩
  subst hv
  have hq4 := (uh HQ).below hb4
  clear hb4 t0 t1 e0 e1 e2 e3 r0 r1 r2 r3 r4 r5 r6 r7 HLK HQ
  go_upto_region 2 with fail
  obtain ⟨w5, hw5⟩ : ∃ w5, w5 = w4.alloc (.cells (na L.1.2 (.slice da L.1.2.data.length ec) (.slice la L.1.2.list.length lc)) 82) := ⟨_, rfl⟩
  have hq5 : Sq w w5 T E R #[.slice x n cap, .int .i64 now] (ea e) := by rw [hw5]; exact hq4.below (al_below w4 _)
  rw [← hw5]
  clear hw5 hq4
  have HQ5 := hide hq5
  obtain ⟨⟨t0, t1⟩, -, r0, r1, r2, r3, r4, r5, r6, r7⟩ := Sq.cells hq5
  have fz := hq5.fz
  have f0 := fz 0; have f1 := fz 1; have f2 := fz 2; have f3 := fz 3; have f4 := fz 4; have f5 := fz 5; have f6 := fz 6; have f7 := fz 7
  clear fz hq5
  by_cases hz : L.2 = 0
  · have hzb : (L.2 != 0) = false := by rw [hz]; rfl
    have HV2 : Hid (V = .tuple #[.agg (vStat L.1.1 L.1.2), .int .i64 0]) := by show _ = _; rw [uh HV, if_neg (fun q => q hz)]
    have HS := hide (uh HST w5 (uh HQ5).bel hz)
    clear HV HST
    unfold vStat at HS HV2
    go_wp2_with fail
    refine (uh HS).mono ?_
    rintro e6 w6 ⟨rfl, hb6⟩
    have hq6 := (uh HQ5).below hb6
    clear t0 t1 r0 r1 r2 r3 r4 r5 r6 r7 f0 f1 f2 f3 f4 f5 f6 f7 hb6 HS HQ5
    obtain ⟨-, -, r0, r1, r2, r3, r4, r5, r6, r7⟩ := Sq.cells hq6
    have fz := hq6.fz
    have f0 := fz 0; have f1 := fz 1; have f2 := fz 2; have f3 := fz 3; have f4 := fz 4; have f5 := fz 5; have f6 := fz 6; have f7 := fz 7
    have HF := hide (fun a0 a1 a2 a3 a4 a5 a6 a7 => set8_below hq6.bel hq6.leR a0 a1 a2 a3 a4 a5 a6 a7)
    clear fz hq6
    go_wp2_with fail
    refine bodyPost_ret (v := V) (by rw [uh HV2]; simp [results, Tryz.results26, go_sem, r0, r1, r2, r3, r4, r5, r6, r7]) rfl ?_
    exact ⟨rfl, uh HF _ _ _ _ _ _ _ _⟩
  · have hzb : (L.2 != 0) = true := by simpa using hz
    have HV2 : Hid (V = .tuple #[.agg zStat, .int .i64 L.2]) := by show _ = _; rw [uh HV, if_pos hz]
    have HF := hide (fun a0 a1 a2 a3 a4 a5 a6 a7 => set8_below (uh HQ5).bel (uh HQ5).leR a0 a1 a2 a3 a4 a5 a6 a7)
    clear HV HST HQ5
    go_wp2_with fail
    refine bodyPost_ret (v := V) (by rw [uh HV2]; simp [results, Tryz.results26, go_sem, r0, r1, r2, r3, r4, r5, r6, r7]) rfl ?_
    exact ⟨rfl, uh HF _ _ _ _ _ _ _ _⟩
end Go.Proofs.YtidhceebafmlkaaGreatDoor.Ca

namespace Go.Proofs.YtidhceebafmlkaaGreatDoor.Ca
open Go.RowKit Cu Tr
set_option maxRecDepth 100000 in
set_option maxHeartbeats 1000000 in
theorem callsSize0_any (w : World) : Calls Tryz.prog 42 #[.slice none 0 0] w fun e w' => e = .returned (.int .i64 0) ∧ w' = w := by
  go_enter Tryz.func42, Tryz.ntmps42
  go_wp2
  go_loopw [3, 4] (fun v3 v4 wr => v3 = .int .i64 0 ∧ v4 = .int .i64 0 ∧ wr = w) (fun _ _ _ => 0)
  case atStart => exact ⟨rfl, rfl, rfl⟩
  case round =>
    obtain ⟨rfl, rfl, rfl⟩ := hrel
    go_wp2
    go_ret
    exact ⟨rfl, rfl⟩
set_option maxRecDepth 100000 in
set_option maxHeartbeats 1000000 in
theorem great0_any (a : Option Addr) (n cap : Nat) (ns : List Nd) (now : Int) (w : World) (h : Ng w a n cap ns) (hn : n ≤ 281474976710656) (hr : ∀ i, i < n → Rb (nd ns i)) :
    Calls Tryz.prog 9 #[.agg #[.slice a n cap, .int .i64 now], .slice none 0 0] w fun e w' => (∃ q : Bool, e = .returned (.bool q) ∧ (q = false → nodesTo ns ns.length ≤ 60000)) ∧ Below w.heap.size w w' := by
  have HT : ∀ W, Below w.heap.size w W → Calls Tryz.prog 41 #[.agg #[.slice a n cap, .int .i64 now]] W fun e w' => (∃ r : Nat, e = .returned (.int .i64 ((r : Int) + 1)) ∧ r ≤ 4503599627370496 ∧ (r ≤ 1048576 → r = nodesTo ns ns.length)) ∧ Below W.heap.size W w' := by
    intro W hW
    have HN : Hid (∀ V, Below w.heap.size w V → Calls Tryz.prog 110 #[.slice a n cap] V fun e w' => (∃ r : Nat, e = .returned (.int .i64 r) ∧ r ≤ 4503599627370496 ∧ (r ≤ 1048576 → r = nodesTo ns ns.length)) ∧ Below V.heap.size V w') := fun V hV => nodesSize_any a n cap ns V (h.below hV) hn hr
    have hb0 : Hid (Below W.heap.size W (W.alloc (.cells #[.slice a n cap, .int .i64 now] 24))) := (Below.refl _ _).alloc (Nat.le_refl _) _
    have hb1 : Hid (Below w.heap.size w (W.alloc (.cells #[.slice a n cap, .int .i64 now] 24))) := hW.trans ((uh hb0).mono hW.size)
    clear h hr hW
    go_enter Tryz.func41, Tryz.ntmps41
    go_wp2_with fail
    refine (uh HN _ (uh hb1)).mono ?_
    rintro e w1 ⟨⟨r, rfl, hr1, hr2⟩, b1⟩
    have hB1 := hide ((uh hb0).trans (b1.mono (uh hb0).size))
    have HR2 := hide hr2
    clear b1 HN hr2
    go_wp2
    go_ret
    exact ⟨⟨r, by go_num, hr1, uh HR2⟩, uh hB1⟩
  have HT := hide HT
  have hb0 : Hid (Below w.heap.size w (w.alloc (.cells #[.slice a n cap, .int .i64 now] 24))) := (Below.refl _ _).alloc (Nat.le_refl _) _
  clear h hr
  go_enter Tryz.func9, Tryz.ntmps9
  go_wp2_with fail
  refine (uh HT _ (uh hb0)).mono ?_
  rintro e w1 ⟨⟨r, rfl, hr1, hr2⟩, b1⟩
  have hB1 := hide ((uh hb0).trans (b1.mono (uh hb0).size))
  have HR2 := hide hr2
  clear b1 HT hr2
  by_cases hq : r + 1 ≤ 60000
  · have hq' : ¬ (60000 : Int) < (r : Int) + 1 := by omega
    have hq2 : decide ((60000 : Int) < (r : Int) + 1) = false := decide_eq_false hq'
    go_wp2_with fail
    refine (callsSize0_any _).mono ?_
    rintro e w2 ⟨rfl, rfl⟩
    go_wp2_with fail
    go_ret
    exact ⟨⟨_, rfl, fun _ => by rw [← uh HR2 (by omega)]; omega⟩, uh hB1⟩
  · have hq' : (60000 : Int) < (r : Int) + 1 := by omega
    have hq2 : decide ((60000 : Int) < (r : Int) + 1) = true := decide_eq_true hq'
    go_wp2_with fail
    go_ret
    refine ⟨⟨_, rfl, fun h => ?_⟩, uh hB1⟩
    simp at h
end Go.Proofs.YtidhceebafmlkaaGreatDoor.Ca

namespace Go.Proofs.YtidhceebafmlkaaGreatDoor.Ca
open Go.RowKit Cu Tr
set_option maxRecDepth 100000 in
set_option maxHeartbeats 1000000 in
theorem slash_any (s : ByteArray) (w : World) (hs : s.size ≤ 1000000000) : Calls Tryz.prog 40 #[.string s] w fun e w' => e = .returned (.bool (hasB s 47)) ∧ w' = w := by
  have HQ : Hid (∀ j (h : j < s.size), s[j].toNat = ((bs s).getD j 0).toNat) := fun j h => by
    have e : (bs s)[j]? = some s[j] := by rw [List.getElem?_eq_getElem (by rw [bs_len]; exact h)]; rfl
    simp [List.getD, e]
  have hl : (bs s).length = s.size := rfl
  go_enter Tryz.func40, Tryz.ntmps40
  go_wp2
  go_loopw [3] (fun x wr => ∃ i : Nat, i ≤ s.size ∧ x = .int .i64 i ∧ wr = w ∧ Hid (∀ j, j < i → (bs s).getD j 0 ≠ 47)) (fun x _ => s.size - (intOf x).toNat)
  case atStart => exact ⟨0, Nat.zero_le _, rfl, rfl, fun j hj => by omega⟩
  case round =>
    obtain ⟨i, hi, rfl, rfl, HI⟩ := hrel
    by_cases hlt : i < s.size
    · have hi' : (i : Int) < (s.size : Int) := by omega
      by_cases h0 : (bs s).getD i 0 = 47
      · have hx : (s[i].toNat : Int) = 47 := by rw [uh HQ i hlt, h0]; rfl
        have HR : Hid (hasB s 47 = true) := decide_eq_true (by
          have e : (bs s)[i]'(by omega) = 47 := by
            have := h0
            simp only [List.getD, List.getElem?_eq_getElem (show i < (bs s).length by omega), Option.getD_some] at this
            exact this
          rw [← e]; exact List.getElem_mem _)
        clear HI h0
        go_wp2_with fail
        go_ret
        exact ⟨by rw [uh HR]; rfl, rfl⟩
      · have hx : ¬ (s[i].toNat : Int) = 47 := by
          rw [uh HQ i hlt]
          exact fun e => h0 (UInt8.toNat_inj.1 (by show _ = 47; omega))
        go_wp2_with fail
        go_roundw
        case rel =>
          refine ⟨i + 1, by omega, by go_num, trivial, fun j hj => ?_⟩
          by_cases ej : j = i
          · rw [ej]; exact h0
          · exact uh HI j (by omega)
        case measure => simp [intOf]; omega
    · obtain rfl : i = s.size := by omega
      have HR : Hid (hasB s 47 = false) := decide_eq_false (by
        intro h
        obtain ⟨j, hj, e⟩ := List.getElem_of_mem h
        have := uh HI j hj
        simp only [List.getD, List.getElem?_eq_getElem hj, Option.getD_some] at this
        exact this e)
      clear HI
      have hll : ¬ ((s.size : Nat) : Int) < (s.size : Int) := by omega
      go_wp2_with fail
      go_ret
      exact ⟨by rw [uh HR]; rfl, rfl⟩
end Go.Proofs.YtidhceebafmlkaaGreatDoor.Ca
