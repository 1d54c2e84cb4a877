import Derived.Test.YtidhceebafmlkaaGreatDoorCaUp
import Derived.Test.YtidhceebafmlkaaGreatDoorCaMove
import Derived.Test.YtidhceebafmlkaaGreatDoorCaTake
import Derived.BigRegion
namespace Go.Proofs.YtidhceebafmlkaaGreatDoor.Ca
open Go.RowKit Cu Tr Pm Pt
theorem df_ok {ns : List Nd} {l : List Nv} (hm : l.map (·.1) = ns) {d : Nat} (hd : d < ns.length) (hf : Fine ns) (hb : Lb ns 1000000) :
    d < l.length ∧ Rises (l.getD d zNv).1.list ∧ (l.getD d zNv).1.list.length ≤ 100000 ∧ (-1000000000 ≤ (l.getD d zNv).1.links ∧ (l.getD d zNv).1.links ≤ 1000000000) := by
  have hl : d < l.length := by rw [← hm, List.length_map] at hd; exact hd
  rw [getD_fst l d hl, hm]
  have := hb d
  exact ⟨hl, (hf d).1, (hf d).2, by omega, by omega⟩
set_option maxRecDepth 100000 in
set_option maxHeartbeats 2000000 in
theorem rename_any (A : Nat) (x : Option Addr) (n cap : Nat) (dx : Option Addr) (dc : Nat) (a : Ac) (w : World) (h : At w A x n cap dx dc a) (hp : Okp a.ns a.p) (hq : Okp a.ns a.q) :
    Calls Tryz.prog 129 #[.pointer (some ⟨A, 0, none⟩)] w (DoR a.rename w) := by
  obtain ⟨pd, hpd, hdr⟩ := hp.dir
  obtain ⟨pm, hpm, hpn, -⟩ := hp.node h.chk
  obtain ⟨qd, hqd, hqr⟩ := hq.dir
  obtain ⟨qm, hqm, hqn, -⟩ := hq.node h.chk
  obtain ⟨b1, hb1⟩ : ∃ b, b = nameless a.p := ⟨_, rfl⟩
  obtain ⟨b4, hb4⟩ : ∃ b, b = nameless a.q := ⟨_, rfl⟩
  obtain ⟨b2, hb2⟩ : ∃ b, b = isN a.here := ⟨_, rfl⟩
  have HNM : Hid (∀ W, At W A x n cap dx dc a → Calls Tryz.prog 189 #[.agg (pv a.p)] W fun e w' => e = .returned (.bool b1) ∧ Below W.heap.size W w') := fun W _ => by rw [hb1]; exact isNameless_any a.p W
  have HH : Hid (∀ W, At W A x n cap dx dc a → Calls Tryz.prog 186 #[.pointer (some ⟨A, 0, none⟩)] W fun e w' => (∃ v, e = .returned v ∧ IsNd w' v a.here) ∧ Below W.heap.size W w') := fun W hW => here_any A x n cap dx dc a pm W hW hpm hpn
  have HIN : Hid (∀ v W, IsNd W v a.here → Calls Tryz.prog 190 #[v] W fun e w' => e = .returned (.bool b2) ∧ Below W.heap.size W w') := fun v W hW => by rw [hb2]; exact isNone_any v a.here W hW
  have HNQ : Hid (∀ W, At W A x n cap dx dc a → Calls Tryz.prog 189 #[.agg (pv a.q)] W fun e w' => e = .returned (.bool b4) ∧ Below W.heap.size W w') := fun W _ => by rw [hb4]; exact isNameless_any a.q W
  have HTP : Hid (∀ W, At W A x n cap dx dc a → Calls Tryz.prog 203 #[.pointer (some ⟨A, 0, none⟩)] W fun e w' => e = .returned (.int .i64 a.mayTakePlace) ∧ Below W.heap.size W w') := fun W hW => mayTakePlace_any A x n cap dx dc a W hW hp hq
  have HMV : Hid (∀ W, At W A x n cap dx dc a → Calls Tryz.prog 204 #[.pointer (some ⟨A, 0, none⟩)] W fun e w' => e = .returned (.int .i64 a.mayMove) ∧ Below W.heap.size W w') := fun W hW => mayMove_any A x n cap dx dc a W hW hp hq
  have HCK := hide h.chk
  have HPV : Hid (pv a.p = pv ⟨(pd : Int), a.p.name, (pm : Int), a.p.dirs⟩) := by show _ = _; rw [← hpd, ← hpm]
  have HQV : Hid (pv a.q = pv ⟨(qd : Int), a.q.name, (qm : Int), a.q.dirs⟩) := by show _ = _; rw [← hqd, ← hqm]
  have HNUM : Hid (a.p.node = (pm : Int) ∧ a.q.node = (qm : Int) ∧ a.p.dir = (pd : Int) ∧ a.q.dir = (qd : Int)) := ⟨hpm, hqm, hpd, hqd⟩
  have HIN9 : Hid (pm < a.ns.length ∧ qm < a.ns.length ∧ Dr a.ns pd ∧ Dr a.ns qd) := ⟨hpn, hqn, hdr, hqr⟩
  have HN1 : Hid (b1 = false → b4 = false → b2 = false → a.p.node ≠ a.q.node → a.mayTakePlace = 0 → ∀ n1, n1 = (if a.q.node ≠ 0 then loseD (unlistD a.now a.ns qd a.q.name qm) qm else a.ns) → pd < n1.length ∧ pm < n1.length ∧ qd < n1.length ∧ Fine n1 ∧ Lb n1 100010) := by
    intro e1 e4 e2 hne hmt n1 hn1
    have hf := fine_of h.chk
    have hl := lb_of h.chk
    have hk : (nd a.ns pm).kind ≠ 0 := by
      rw [hb2] at e2
      unfold isN Ac.here at e2
      rw [hpm, Int.toNat_natCast] at e2
      exact of_decide_eq_false e2
    by_cases hq0 : a.q.node = 0
    · rw [if_neg (fun q => q hq0)] at hn1
      subst hn1
      exact ⟨hdr.2.1, hpn, hqr.2.1, hf, fun i => by have := hl i; omega⟩
    · rw [if_pos hq0] at hn1
      have hp0 : a.p.node ≠ 0 := by
        intro e
        rw [hpm] at e
        have e5 : pm = 0 := by omega
        subst e5
        exact hk (checkP_parts h.chk).2.2.1
      obtain ⟨a1, a2⟩ := ren_apart hp hq (hb1 ▸ e1) (hb4 ▸ e4) hp0 hq0 hmt hpd hqd hqm hdr hqr
      have a3 : pm ≠ qm := by intro e; apply hne; rw [hpm, hqm, e]
      have hk2 : ∀ x, (nd (unlistD a.now a.ns qd a.q.name qm) x).kind = (nd a.ns x).kind := unlist_kind a.ns qd qm a.q.name
      have hln : (unlistD a.now a.ns qd a.q.name qm).length = a.ns.length := unlist_len a.ns qd qm a.q.name
      rw [hn1]
      refine ⟨(lose_in (by rw [hln]; exact hdr.2.1) a1 (by rw [hk2, hdr.2.2]; decide)).1, (lose_in (by rw [hln]; exact hpn) a3 (by rw [hk2]; exact hk)).1, (lose_in (by rw [hln]; exact hqr.2.1) a2 (by rw [hk2, hqr.2.2]; decide)).1, lose_fine (unlist_fine hf _ _ _) _, fun i => ?_⟩
      have := lose_lb (unlist_lb (now := a.now) hl qd qm a.q.name) (by omega) qm i
      omega
  have HBS := hide (show b1 = nameless a.p ∧ b4 = nameless a.q ∧ b2 = isN a.here from ⟨hb1, hb4, hb2⟩)
  clear hp hq hpd hdr hpm hpn hqd hqr hqm hqn
  obtain ⟨er, hER⟩ : ∃ er, Hid (er = orP [wh (nameless a.p || nameless a.q) 14, wh (isN a.here) 6]) := ⟨_, rfl⟩
  obtain ⟨RR, hRR⟩ : ∃ RR, RR = a.rename := ⟨_, rfl⟩
  rw [← hRR]
  have HK : Hid (RR = if er ≠ 0 then no er else (if a.p.node = a.q.node then yes a.now a.ns else if orP [a.mayTakePlace, a.mayMove] ≠ 0 then no (orP [a.mayTakePlace, a.mayMove]) else yes a.now (listD a.now (unlistD a.now (if a.q.node ≠ 0 then loseD (unlistD a.now a.ns a.q.dir.toNat a.q.name a.q.node.toNat) a.q.node.toNat else a.ns) a.p.dir.toNat a.p.name a.p.node.toNat) a.q.dir.toNat a.q.name a.p.node.toNat))) := by show _ = _; rw [hRR, uh hER]; rfl
  clear hRR
  obtain ⟨w1, hw1⟩ : ∃ w1, w1 = w.alloc (.cells zTree 24) := ⟨_, rfl⟩
  have hA1 : At w1 A x n cap dx dc a := by rw [hw1]; exact h.al _
  have HA0 : Hid (At w1 A x n cap dx dc a) := hA1
  have BB0 : Hid (Below w1.heap.size w1 w1) := Below.refl _ _
  have HW1 := hide hw1
  clear h hw1 hA1
  go_enter Tryz.func129, Tryz.ntmps129
  go_upto_region 1 with fail
  rw [← uh HW1]
  go_cut [4] (fun u wx => u = .int .i64 er ∧ Hid (At wx A x n cap dx dc a) ∧ Hid (Below w1.heap.size w1 wx))
  case first =>
    rw [← hb1, ← hb2, ← hb4] at hER
    clear hb1 hb2 hb4
    cases b1 with
    | true =>
      rw [Bool.true_or] at hER
      obtain ⟨c0, c1, c2, c3, c4, c5, c6, c7, c8, c9, c10, c11, c12, c13, c14, c15, c16, c17, c18, c19, c20, c21⟩ := (uh HA0).cells
      go_wp2_with fail
      clear c0 c1 c2 c3 c4 c5 c6 c7 c8 c9 c10 c11 c12 c13 c14 c15 c16 c17 c18 c19 c20 c21
      refine (uh HNM _ (uh HA0)).mono ?_; rintro e w1 ⟨rfl, hb1⟩; have HA1 := hide ((uh HA0).below hb1); have BB1 := hide ((uh BB0).trans (hb1.mono (uh BB0).size)); clear hb1
      obtain ⟨c0, c1, c2, c3, c4, c5, c6, c7, c8, c9, c10, c11, c12, c13, c14, c15, c16, c17, c18, c19, c20, c21⟩ := (uh HA1).cells
      go_wp2_with fail
      clear c0 c1 c2 c3 c4 c5 c6 c7 c8 c9 c10 c11 c12 c13 c14 c15 c16 c17 c18 c19 c20 c21
      refine (when_any _ _ _).mono ?_; rintro e ww12 ⟨rfl, hw12⟩; subst hw12
      obtain ⟨c0, c1, c2, c3, c4, c5, c6, c7, c8, c9, c10, c11, c12, c13, c14, c15, c16, c17, c18, c19, c20, c21⟩ := (uh HA1).cells
      go_wp2_with fail
      clear c0 c1 c2 c3 c4 c5 c6 c7 c8 c9 c10 c11 c12 c13 c14 c15 c16 c17 c18 c19 c20 c21
      refine (uh HH _ (uh HA1)).mono ?_; rintro e w2 ⟨⟨v2, rfl, hnd2⟩, hb2⟩; have HN2 := hide hnd2; have HA2 := hide ((uh HA1).below hb2); have BB2 := hide ((uh BB1).trans (hb2.mono (uh BB1).size)); clear hb2; clear hnd2
      obtain ⟨c0, c1, c2, c3, c4, c5, c6, c7, c8, c9, c10, c11, c12, c13, c14, c15, c16, c17, c18, c19, c20, c21⟩ := (uh HA2).cells
      go_wp2_with fail
      clear c0 c1 c2 c3 c4 c5 c6 c7 c8 c9 c10 c11 c12 c13 c14 c15 c16 c17 c18 c19 c20 c21
      refine (uh HIN _ _ (uh HN2)).mono ?_; rintro e w3 ⟨rfl, hb3⟩; have HA3 := hide ((uh HA2).below hb3); have BB3 := hide ((uh BB2).trans (hb3.mono (uh BB2).size)); clear hb3
      obtain ⟨c0, c1, c2, c3, c4, c5, c6, c7, c8, c9, c10, c11, c12, c13, c14, c15, c16, c17, c18, c19, c20, c21⟩ := (uh HA3).cells
      go_wp2_with fail
      clear c0 c1 c2 c3 c4 c5 c6 c7 c8 c9 c10 c11 c12 c13 c14 c15 c16 c17 c18 c19 c20 c21
      refine (when_any _ _ _).mono ?_; rintro e ww16 ⟨rfl, hw16⟩; subst hw16
      obtain ⟨c0, c1, c2, c3, c4, c5, c6, c7, c8, c9, c10, c11, c12, c13, c14, c15, c16, c17, c18, c19, c20, c21⟩ := (uh HA3).cells
      go_wp2_with fail
      clear c0 c1 c2 c3 c4 c5 c6 c7 c8 c9 c10 c11 c12 c13 c14 c15 c16 c17 c18 c19 c20 c21
      refine (or2_any _ _ _ _ rfl).mono ?_; rintro e ww18 ⟨rfl, hw18⟩; subst hw18
      go_wp2_with fail
      go_meet
      exact ⟨by rw [uh hER], (uh HA3).al _, (uh BB3).alloc (uh BB3).size _⟩
    | false =>
      rw [Bool.false_or] at hER
      obtain ⟨c0, c1, c2, c3, c4, c5, c6, c7, c8, c9, c10, c11, c12, c13, c14, c15, c16, c17, c18, c19, c20, c21⟩ := (uh HA0).cells
      go_wp2_with fail
      clear c0 c1 c2 c3 c4 c5 c6 c7 c8 c9 c10 c11 c12 c13 c14 c15 c16 c17 c18 c19 c20 c21
      refine (uh HNM _ (uh HA0)).mono ?_; rintro e w1 ⟨rfl, hb1⟩; have HA1 := hide ((uh HA0).below hb1); have BB1 := hide ((uh BB0).trans (hb1.mono (uh BB0).size)); clear hb1
      obtain ⟨c0, c1, c2, c3, c4, c5, c6, c7, c8, c9, c10, c11, c12, c13, c14, c15, c16, c17, c18, c19, c20, c21⟩ := (uh HA1).cells
      go_wp2_with fail
      clear c0 c1 c2 c3 c4 c5 c6 c7 c8 c9 c10 c11 c12 c13 c14 c15 c16 c17 c18 c19 c20 c21
      refine (uh HNQ _ (uh HA1)).mono ?_; rintro e w2 ⟨rfl, hb2⟩; have HA2 := hide ((uh HA1).below hb2); have BB2 := hide ((uh BB1).trans (hb2.mono (uh BB1).size)); clear hb2
      obtain ⟨c0, c1, c2, c3, c4, c5, c6, c7, c8, c9, c10, c11, c12, c13, c14, c15, c16, c17, c18, c19, c20, c21⟩ := (uh HA2).cells
      go_wp2_with fail
      clear c0 c1 c2 c3 c4 c5 c6 c7 c8 c9 c10 c11 c12 c13 c14 c15 c16 c17 c18 c19 c20 c21
      refine (when_any _ _ _).mono ?_; rintro e ww12 ⟨rfl, hw12⟩; subst hw12
      obtain ⟨c0, c1, c2, c3, c4, c5, c6, c7, c8, c9, c10, c11, c12, c13, c14, c15, c16, c17, c18, c19, c20, c21⟩ := (uh HA2).cells
      go_wp2_with fail
      clear c0 c1 c2 c3 c4 c5 c6 c7 c8 c9 c10 c11 c12 c13 c14 c15 c16 c17 c18 c19 c20 c21
      refine (uh HH _ (uh HA2)).mono ?_; rintro e w3 ⟨⟨v3, rfl, hnd3⟩, hb3⟩; have HN3 := hide hnd3; have HA3 := hide ((uh HA2).below hb3); have BB3 := hide ((uh BB2).trans (hb3.mono (uh BB2).size)); clear hb3; clear hnd3
      obtain ⟨c0, c1, c2, c3, c4, c5, c6, c7, c8, c9, c10, c11, c12, c13, c14, c15, c16, c17, c18, c19, c20, c21⟩ := (uh HA3).cells
      go_wp2_with fail
      clear c0 c1 c2 c3 c4 c5 c6 c7 c8 c9 c10 c11 c12 c13 c14 c15 c16 c17 c18 c19 c20 c21
      refine (uh HIN _ _ (uh HN3)).mono ?_; rintro e w4 ⟨rfl, hb4⟩; have HA4 := hide ((uh HA3).below hb4); have BB4 := hide ((uh BB3).trans (hb4.mono (uh BB3).size)); clear hb4
      obtain ⟨c0, c1, c2, c3, c4, c5, c6, c7, c8, c9, c10, c11, c12, c13, c14, c15, c16, c17, c18, c19, c20, c21⟩ := (uh HA4).cells
      go_wp2_with fail
      clear c0 c1 c2 c3 c4 c5 c6 c7 c8 c9 c10 c11 c12 c13 c14 c15 c16 c17 c18 c19 c20 c21
      refine (when_any _ _ _).mono ?_; rintro e ww16 ⟨rfl, hw16⟩; subst hw16
      obtain ⟨c0, c1, c2, c3, c4, c5, c6, c7, c8, c9, c10, c11, c12, c13, c14, c15, c16, c17, c18, c19, c20, c21⟩ := (uh HA4).cells
      go_wp2_with fail
      clear c0 c1 c2 c3 c4 c5 c6 c7 c8 c9 c10 c11 c12 c13 c14 c15 c16 c17 c18 c19 c20 c21
      refine (or2_any _ _ _ _ rfl).mono ?_; rintro e ww18 ⟨rfl, hw18⟩; subst hw18
      go_wp2_with fail
      go_meet
      exact ⟨by rw [uh hER], (uh HA4).al _, (uh BB4).alloc (uh BB4).size _⟩
  case rest =>
    obtain ⟨rfl, HA, HBB⟩ := hcut
    rw [uh HW1] at HBB
    have HER0 : Hid (er = orP [wh (nameless a.p || nameless a.q) 14, wh (isN a.here) 6]) := hER
    clear HA0 BB0 hER
    by_cases her : er = 0
    · have HK2 : Hid (RR = (if a.p.node = a.q.node then yes a.now a.ns else if orP [a.mayTakePlace, a.mayMove] ≠ 0 then no (orP [a.mayTakePlace, a.mayMove]) else yes a.now (listD a.now (unlistD a.now (if a.q.node ≠ 0 then loseD (unlistD a.now a.ns a.q.dir.toNat a.q.name a.q.node.toNat) a.q.node.toNat else a.ns) a.p.dir.toNat a.p.name a.p.node.toNat) a.q.dir.toNat a.q.name a.p.node.toNat))) := by show _ = _; rw [uh HK, if_neg (fun q => q her)]
      have hern : (er != 0) = false := by simpa using her
      subst her
      clear HK hern
      have HRB : Hid (w.heap.size < wc.heap.size) := by show _ < _; have := (uh HBB).size; simp at this; omega
      have HCP := hide (copy_any (uh HA))
      have hB0 : b1 = false ∧ b4 = false ∧ b2 = false := by
        have q := uh HER0
        rw [← (uh HBS).1, ← (uh HBS).2.1, ← (uh HBS).2.2] at q
        have q1 := wh_off (by decide) (or_cons q.symm).1
        have q2 := wh_off (by decide) (or_cons (or_cons q.symm).2).1
        rw [Bool.or_eq_false_iff] at q1
        exact ⟨q1.1, q1.2, q2⟩
      have HB0 := hide hB0
      clear hB0 HCP HNM HH HIN HNQ HBS
      have HAd : Hid (At wc.drew A x n cap dx dc a) := (uh HA).dr
      have CBd : Hid (Below wc.heap.size wc wc.drew) := below_drew wc 1
      by_cases hpq : a.p.node = a.q.node
      · have HK3 : Hid (RR = yes a.now a.ns) := by show _ = _; rw [uh HK2, if_pos hpq]
        have hpq1 : (a.p.node == a.q.node) = true := by simpa using hpq
        have HPQ := hide hpq
        clear hpq HK2
        go_wp2_with fail
        refine wp_region_held_drew (S := (fun w' => At w' A x n cap dx dc a)) (by kernel_rfl) (uh HAd) (fun hHeld => ?_)
        refine tk 0 rfl (v := ?v43) (.inl ⟨by rfl, ?hy43⟩) ?rest43
        case hy43 => intro w hSw; have hSc := At.cells hSw; go_simp; try with_reducible rfl
        try simp only [pS]
        refine tk 1 rfl (v := ?v44) (.inl ⟨by rfl, ?hy44⟩) ?rest44
        case hy44 => intro w hSw; have hSc := At.cells hSw; go_simp; try with_reducible rfl
        try simp only [pS]
        refine tk 2 rfl (v := ?v45) (.inl ⟨by rfl, ?hy45⟩) ?rest45
        case hy45 => intro w hSw; have hSc := At.cells hSw; go_simp; try with_reducible rfl
        try simp only [pS]
        refine tk 3 rfl (v := ?v46) (.inl ⟨by rfl, ?hy46⟩) ?rest46
        case hy46 => intro w hSw; have hSc := At.cells hSw; go_simp; try with_reducible rfl
        try simp only [pS]
        refine tk 4 rfl (v := ?v47) (.inl ⟨by rfl, ?hy47⟩) ?rest47
        case hy47 => intro w hSw; have hSc := At.cells hSw; go_simp; try with_reducible rfl
        try simp only [pS]
        refine tk 5 rfl (v := ?v48) (.inl ⟨by rfl, ?hy48⟩) ?rest48
        case hy48 => intro w hSw; have hSc := At.cells hSw; go_simp; try with_reducible rfl
        try simp only [pS]
        refine tk 6 rfl (v := ?v49) (.inl ⟨by rfl, ?hy49⟩) ?rest49
        case hy49 => intro w hSw; have hSc := At.cells hSw; go_simp; try with_reducible rfl
        try simp only [pS]
        refine tk 7 rfl (v := ?v50) (.inl ⟨by rfl, ?hy50⟩) ?rest50
        case hy50 => intro w hSw; have hSc := At.cells hSw; go_simp; try with_reducible rfl
        try simp only [pS]
        refine tk 8 rfl (v := ?v51) (.inl ⟨by rfl, ?hy51⟩) ?rest51
        case hy51 => intro w hSw; have hSc := At.cells hSw; go_simp; try with_reducible rfl
        try simp only [pS]
        refine tk 9 rfl (v := ?v52) (.inl ⟨by rfl, ?hy52⟩) ?rest52
        case hy52 => intro w hSw; have hSc := At.cells hSw; go_simp; try with_reducible rfl
        try simp only [pS]
        refine tk 10 rfl (v := ?v53) (.inl ⟨by rfl, ?hy53⟩) ?rest53
        case hy53 => intro w hSw; have hSc := At.cells hSw; go_simp; try with_reducible rfl
        try simp only [pS]
        refine wpAnyH_done (by kernel_rfl) ?_ _
        have HCP := hide (copy_any (uh HAd))
        go_wp2_with fail
        refine (uh HCP).mono ?_
        rintro e w2 ⟨⟨D, v2, l2, rfl, hdf2, hm2⟩, hb2⟩
        obtain ⟨va2, vc2, hv2⟩ := own_sl hdf2.row
        subst hv2
        have HD2 : Hid (Df w2 wc.heap.size D a.now (.slice va2 l2.length vc2) l2) := hdf2
        have CB2 := hide ((uh CBd).trans hb2)
        have HM2 := hide hm2
        clear hdf2 hm2 hb2 HCP
        have HBW := hide ((uh HBB).trans ((uh CB2).mono (by have := uh HRB; have := (uh HBB).size; omega)))
        obtain ⟨r0, r1, z0, z1⟩ := room_cells (uh HBW)
        obtain ⟨t0, t1, -⟩ := (uh HD2).cells
        have HDF := hide (((uh HD2).room (uh HRB) (.slice va2 l2.length vc2) (.int .i64 a.now)).ot (Nat.le_of_lt (uh HRB)) (uh HM2))
        have HF := hide (room_below (uh HBW) (.slice va2 l2.length vc2) (.int .i64 a.now))
        have hDR := hide ((uh HD2).hD)
        go_wp2_with fail
        refine bodyPost_ret (v := .tuple #[.agg #[(.slice va2 l2.length vc2), .int .i64 a.now], .int .i64 0]) (by simp [results, Tryz.results129, go_sem, r0, r1]) rfl ?_
        show DoR RR w _ _
        rw [uh HK3]
        exact ⟨⟨_, rfl, uh HDF⟩, uh HF⟩
      · have hpq1 : (a.p.node == a.q.node) = false := by simpa using hpq
        have HPQ := hide hpq
        obtain ⟨er2, hE2⟩ : ∃ er2, er2 = orP [a.mayTakePlace, a.mayMove] := ⟨_, rfl⟩
        have HK3 := uh HK2
        rw [if_neg hpq, ← hE2] at HK3
        have HK4 := hide HK3
        have HE2 := hide hE2
        clear hpq HK2 HK3 hE2
        go_wp2_with fail
        refine wp_region_held_drew (S := (fun w' => At w' A x n cap dx dc a)) (by kernel_rfl) (uh HAd) (fun hHeld => ?_)
        refine tk 0 rfl (v := ?v54) (.inl ⟨by rfl, ?hy54⟩) ?rest54
        case hy54 => intro w hSw; have hSc := At.cells hSw; go_simp; try with_reducible rfl
        try simp only [pS]
        refine tk 1 rfl (v := ?v55) (.inl ⟨by rfl, ?hy55⟩) ?rest55
        case hy55 => intro w hSw; have hSc := At.cells hSw; go_simp; try with_reducible rfl
        try simp only [pS]
        refine tk 2 rfl (v := ?v56) (.inl ⟨by rfl, ?hy56⟩) ?rest56
        case hy56 => intro w hSw; have hSc := At.cells hSw; go_simp; try with_reducible rfl
        try simp only [pS]
        refine tk 3 rfl (v := ?v57) (.inl ⟨by rfl, ?hy57⟩) ?rest57
        case hy57 => intro w hSw; have hSc := At.cells hSw; go_simp; try with_reducible rfl
        try simp only [pS]
        refine tk 4 rfl (v := ?v58) (.inl ⟨by rfl, ?hy58⟩) ?rest58
        case hy58 => intro w hSw; have hSc := At.cells hSw; go_simp; try with_reducible rfl
        try simp only [pS]
        refine tk 5 rfl (v := ?v59) (.inl ⟨by rfl, ?hy59⟩) ?rest59
        case hy59 => intro w hSw; have hSc := At.cells hSw; go_simp; try with_reducible rfl
        try simp only [pS]
        refine tk 6 rfl (v := ?v60) (.inl ⟨by rfl, ?hy60⟩) ?rest60
        case hy60 => intro w hSw; have hSc := At.cells hSw; go_simp; try with_reducible rfl
        try simp only [pS]
        refine tk 7 rfl (v := ?v61) (.inl ⟨by rfl, ?hy61⟩) ?rest61
        case hy61 => intro w hSw; have hSc := At.cells hSw; go_simp; try with_reducible rfl
        try simp only [pS]
        refine tk 8 rfl (v := ?v62) (.inl ⟨by rfl, ?hy62⟩) ?rest62
        case hy62 => intro w hSw; have hSc := At.cells hSw; go_simp; try with_reducible rfl
        try simp only [pS]
        refine tk 9 rfl (v := ?v63) (.inl ⟨by rfl, ?hy63⟩) ?rest63
        case hy63 => intro w hSw; have hSc := At.cells hSw; go_simp; try with_reducible rfl
        try simp only [pS]
        refine tk 10 rfl (v := ?v64) (.inl ⟨by rfl, ?hy64⟩) ?rest64
        case hy64 => intro w hSw; have hSc := At.cells hSw; go_simp; try with_reducible rfl
        try simp only [pS]
        refine wpAnyH_done (by kernel_rfl) ?_ _
        go_wp2_with fail
        refine (uh HTP _ (uh HAd)).mono ?_
        rintro e w2 ⟨rfl, hb2⟩
        have HA2 := hide ((uh HAd).below hb2)
        have CB2 := hide ((uh CBd).trans hb2)
        clear hb2 HTP
        go_wp2_with fail
        refine (uh HMV _ (uh HA2)).mono ?_
        rintro e w3 ⟨rfl, hb3⟩
        have HA3 := hide ((uh HA2).below hb3)
        have CB3 := hide ((uh CB2).trans (hb3.mono (uh CB2).size))
        clear hb3 HMV
        go_wp2_with fail
        refine (or2_any _ _ _ _ rfl).mono ?_
        rintro e w4 ⟨rfl, hw4⟩
        have HA4 : Hid (At w4 A x n cap dx dc a) := by rw [hw4]; exact (uh HA3).al _
        have CB4 : Hid (Below wc.heap.size wc w4) := by rw [hw4]; exact (uh CB3).alloc (uh CB3).size _
        rw [← uh HE2]
        clear hw4 HA2 CB2 HA3 CB3 HAd CBd
        by_cases her2 : er2 = 0
        rotate_left
        · have HBB4 := hide ((uh HBB).trans ((uh CB4).mono (by have := uh HRB; have := (uh HBB).size; omega)))
          have HRD := hide (room_cells (uh HBB4))
          have HF := hide (room_below (uh HBB4) (.slice none 0 0) (.int .i64 0))
          have HK2 : Hid (RR = no er2) := by show _ = _; rw [uh HK4, if_pos her2]
          obtain ⟨r0, r1, z0, z1⟩ := uh HRD
          have hern : (er2 != 0) = true := by simpa using her2
          clear HRD HK4 HBB4 HBB HA HA4
          go_wp2_with fail
          refine bodyPost_ret (v := .tuple #[.agg #[.slice none 0 0, .int .i64 0], .int .i64 er2]) (by simp [results, Tryz.results129, go_sem, r0, r1]) rfl ?_
          show DoR RR w _ _
          rw [uh HK2]
          exact ⟨⟨_, rfl, ot_nil _ _⟩, uh HF⟩
        have hern : (er2 != 0) = false := by simpa using her2
        have HMT : Hid (a.mayTakePlace = 0) := by show _ = _; have q := uh HE2; rw [her2] at q; exact (or_cons q.symm).1
        obtain ⟨n1, hn1⟩ : ∃ n1, n1 = (if a.q.node ≠ 0 then loseD (unlistD a.now a.ns qd a.q.name qm) qm else a.ns) := ⟨_, rfl⟩
        have HN2 := hide (uh HN1 (uh HB0).1 (uh HB0).2.1 (uh HB0).2.2 (uh HPQ) (uh HMT) n1 hn1)
        have HNV := hide hn1
        have HK5 : Hid (RR = yes a.now (listD a.now (unlistD a.now n1 pd a.p.name pm) qd a.q.name pm)) := by
          show _ = _
          have q := uh HK4
          rw [if_neg (fun q => q her2), (uh HNUM).1, (uh HNUM).2.2.1, (uh HNUM).2.2.2] at q
          rw [hn1, q, (uh HNUM).2.1]
          rfl
        clear HK4 HN1 hn1 HMT HE2
        subst her2
        clear hern
        have HCP := hide (copy_any (uh HA4))
        go_wp2_with fail
        refine (uh HCP).mono ?_
        rintro e w5 ⟨⟨D, v5, l5, rfl, hdf5, hm5⟩, hb5⟩
        have HA5 := hide ((uh HA4).below hb5)
        have CB5 := hide hb5
        have HD5 := hide hdf5
        have HM5 := hide hm5
        have HRB4 : Hid (w.heap.size < w4.heap.size) := Nat.lt_of_lt_of_le (uh HRB) (uh CB4).size
        have HBB4 := hide ((uh HBB).trans ((uh CB4).mono (by have := uh HRB; have := (uh HBB).size; omega)))
        obtain ⟨-, -, -, -, -, -, -, -, -, -, -, -, -, -, c14, c15, c16, c17, c18, c19, c20, c21⟩ := (uh HA5).cells
        clear hdf5 hm5 hb5 HCP HA HBB HRB CB4
        go_upto_if 63 with fail
        go_cut [] (fun wx => ∃ (Wo : World) (va : Option Addr) (vc : Nat) (l : List Nv), Hid (Df wx Wo.heap.size D a.now (.slice va l.length vc) l) ∧ Hid (l.map (·.1) = n1) ∧ Hid (Below Wo.heap.size Wo wx) ∧ Hid (w.heap.size < Wo.heap.size) ∧ Hid (Below (w.alloc (.cells zTree 24)).heap.size (w.alloc (.cells zTree 24)) Wo) ∧ Hid (At Wo A x n cap dx dc a))
        case first =>
          by_cases hq0 : a.q.node = 0
          · have hqz : (a.q.node != 0) = false := by rw [hq0]; rfl
            have HN0 : Hid (n1 = a.ns) := by show _ = _; rw [uh HNV, if_neg (fun q => q hq0)]
            clear hq0
            go_wp2_with fail
            go_meet
            obtain ⟨va5, vc5, hv5⟩ := own_sl (uh HD5).row
            exact ⟨w4, va5, vc5, l5, by have q := uh HD5; rw [hv5] at q; exact q, by rw [uh HN0]; exact HM5, CB5, HRB4, HBB4, HA4⟩
          · have hqz : (a.q.node != 0) = true := by simpa using hq0
            have HN0 : Hid (n1 = loseD (unlistD a.now a.ns qd a.q.name qm) qm) := by show _ = _; rw [uh HNV, if_pos hq0]
            obtain ⟨k1, k2, k3, k4⟩ := df_ok (uh HM5) (d := qd) (uh HIN9).2.2.2.2.1 (fine_of (uh HCK)) (fun i => by have := lb_of (uh HCK) i; omega)
            have HUL := hide (unlist_any w4.heap.size D a.now v5 l5 qd qm a.q.name a.q.dirs w5 (uh HD5) (uh CB5).size k1 (by have q := congrArg List.length (uh HM5); rw [List.length_map] at q; rw [q]; exact (uh HIN9).2.1) k2 k3 k4)
            rw [← uh HQV, uh HM5] at HUL
            clear hq0 k1 k2 k3 k4
            go_wp2_with fail
            refine (uh HUL).mono ?_
            rintro e w6 ⟨rfl, ⟨l6, hdf6, hm6⟩, hb6⟩
            have CB6 := hide ((uh CB5).trans hb6)
            have HA6 := hide ((uh HA4).below (uh CB6))
            have q := congrArg List.length hm6
            rw [List.length_map, unlist_len] at q
            have q2 := (uh HA4).len
            have q3 := unlist_lb (now := a.now) (lb_of (uh HCK)) qd qm a.q.name qm
            have q4 : qm < l6.length := by rw [q]; exact (uh HIN9).2.1
            have HLO := hide (lose_any w4.heap.size D a.now v5 l6 qm w6 hdf6 q4 (by omega) (by omega) (by rw [getD_fst l6 qm q4, hm6]; omega))
            rw [hm6] at HLO
            clear c14 c15 c16 c17 c18 c19 c20 c21
            obtain ⟨-, -, -, -, -, -, -, -, -, -, -, -, -, -, c14, c15, c16, c17, c18, c19, c20, c21⟩ := (uh HA6).cells
            rw [(uh HNUM).2.1] at c20
            clear hdf6 hm6 hb6 HUL q q2 q3 q4 hqz
            go_wp2_with fail
            refine (uh HLO).mono ?_
            rintro e w7 ⟨rfl, ⟨v7, l7, hdf7, hm7⟩, hb7⟩
            obtain ⟨va7, vc7, hv7⟩ := own_sl hdf7.row
            subst hv7
            have CB7 := hide ((uh CB6).trans hb7)
            have HD7 := hide hdf7
            have HM7 := hide hm7
            clear hdf7 hm7 hb7 HLO
            go_wp2_with fail
            go_meet
            exact ⟨w4, va7, vc7, l7, HD7, by rw [uh HN0]; exact HM7, CB7, HRB4, HBB4, HA4⟩
        case rest =>
          clear c14 c15 c16 c17 c18 c19 c20 c21
          clear HD5 HM5 CB5 HRB4 HBB4 HA4 HA5
          obtain ⟨Wo, va, vc, l, HDa, HMa, CBa, HRB, HBB, HAo⟩ := hcut
          have HAa := hide ((uh HAo).below (uh CBa))
          obtain ⟨i1, i2, i3, i4, i5⟩ := uh HN2
          obtain ⟨k1, k2, k3, k4⟩ := df_ok (uh HMa) (d := pd) i1 i4 (fun i => by have := i5 i; omega)
          have HUL := hide (unlist_any Wo.heap.size D a.now (.slice va l.length vc) l pd pm a.p.name a.p.dirs wc (uh HDa) (uh CBa).size k1 (by have q := congrArg List.length (uh HMa); rw [List.length_map] at q; rw [q]; exact i2) k2 k3 k4)
          rw [← uh HPV, uh HMa] at HUL
          obtain ⟨-, -, -, -, -, -, -, -, -, -, -, -, -, -, c14, c15, c16, c17, c18, c19, c20, c21⟩ := (uh HAa).cells
          clear i1 i2 i3 i4 i5 k1 k2 k3 k4
          go_wp2_with fail
          refine (uh HUL).mono ?_
          rintro e w8 ⟨rfl, ⟨l8, hdf8, hm8⟩, hb8⟩
          have CB8 := hide ((uh CBa).trans hb8)
          have CB8d : Hid (Below Wo.heap.size Wo w8.drew) := below_dr (uh CB8)
          have HA8d : Hid (At w8.drew A x n cap dx dc a) := ((uh HAo).below (uh CB8)).dr
          obtain ⟨i1, i2, i3, i4, i5⟩ := uh HN2
          have q0 : (unlistD a.now n1 pd a.p.name pm).length = n1.length := unlist_len n1 pd pm a.p.name
          obtain ⟨k1, k2, k3, k4⟩ := df_ok hm8 (d := qd) (by rw [q0]; exact i3) (unlist_fine i4 _ _ _) (fun i => by have := unlist_lb (now := a.now) i5 pd pm a.p.name i; omega)
          have HLC := hide (list_any Wo.heap.size D a.now (.slice va l.length vc) l8 qd pm a.q.name qm a.q.dirs w8.drew hdf8.dr (uh CB8d).size k1 (by have q := congrArg List.length hm8; rw [List.length_map, q0] at q; rw [q]; exact i2) k2 k3 k4)
          rw [← uh HQV, hm8, ← (uh HNUM).1] at HLC
          clear c14 c15 c16 c17 c18 c19 c20 c21
          clear hdf8 hm8 hb8 HUL HDa HMa CBa HAa i1 i2 i3 i4 i5 k1 k2 k3 k4 q0
          go_wp2_with fail
          refine wp_region_held_drew (S := (fun w' => At w' A x n cap dx dc a)) (by kernel_rfl) (uh HA8d) (fun hHeld => ?_)
          refine tk 0 rfl (v := ?v65) (.inl ⟨by rfl, ?hy65⟩) ?rest65
          case hy65 => intro w hSw; have hSc := At.cells hSw; go_simp; try with_reducible rfl
          try simp only [pS]
          refine tk 1 rfl (v := ?v66) (.inl ⟨by rfl, ?hy66⟩) ?rest66
          case hy66 => intro w hSw; have hSc := At.cells hSw; go_simp; try with_reducible rfl
          try simp only [pS]
          refine tk 2 rfl (v := ?v67) (.inl ⟨by rfl, ?hy67⟩) ?rest67
          case hy67 => intro w hSw; have hSc := At.cells hSw; go_simp; try with_reducible rfl
          try simp only [pS]
          refine tk 3 rfl (v := ?v68) (.inl ⟨by rfl, ?hy68⟩) ?rest68
          case hy68 => intro w hSw; have hSc := At.cells hSw; go_simp; try with_reducible rfl
          try simp only [pS]
          refine tk 4 rfl (v := ?v69) (.inl ⟨by rfl, ?hy69⟩) ?rest69
          case hy69 => intro w hSw; have hSc := At.cells hSw; go_simp; try with_reducible rfl
          try simp only [pS]
          refine tk 5 rfl (v := ?v70) (.inl ⟨by rfl, ?hy70⟩) ?rest70
          case hy70 => intro w hSw; have hSc := At.cells hSw; go_simp; try with_reducible rfl
          try simp only [pS]
          refine tk 6 rfl (v := ?v71) (.inl ⟨by rfl, ?hy71⟩) ?rest71
          case hy71 => intro w hSw; have hSc := At.cells hSw; go_simp; try with_reducible rfl
          try simp only [pS]
          refine tk 7 rfl (v := ?v72) (.inl ⟨by rfl, ?hy72⟩) ?rest72
          case hy72 => intro w hSw; have hSc := At.cells hSw; go_simp; try with_reducible rfl
          try simp only [pS]
          refine tk 8 rfl (v := ?v73) (.inl ⟨by rfl, ?hy73⟩) ?rest73
          case hy73 => intro w hSw; have hSc := At.cells hSw; go_simp; try with_reducible rfl
          try simp only [pS]
          refine tk 9 rfl (v := ?v74) (.inl ⟨by rfl, ?hy74⟩) ?rest74
          case hy74 => intro w hSw; have hSc := At.cells hSw; go_simp; try with_reducible rfl
          try simp only [pS]
          refine wpAnyH_ready (rs := [10]) (by kernel_rfl) (by simp) ?_
          refine rc rfl fun K hK => ?_
          go_simp
          refine (uh HLC).mono ?_; rintro e w9 ⟨rfl, ⟨l9, hdf9, hm9⟩, hb9⟩; have CB9 := hide ((uh CB8d).trans hb9); have HA9 := hide ((uh HAo).below (uh CB9)); have HD9 := hide hdf9; have HM9x := hide hm9; clear hdf9 hm9 hb9
          go_wp2_with fail
          refine hK.out _ _ (by first | exact (uh HA9) | assumption | (dsimp only; assumption)) (fun hHeld2 => ?_)
          clear hK K
          try simp only [pS]
          refine wpAnyH_done (by kernel_rfl) ?_ _
          have HM9 := HM9x
          have HBW := hide ((uh HBB).trans ((uh CB9).mono (by have := uh HRB; have := (uh HBB).size; omega)))
          obtain ⟨r0, r1, z0, z1⟩ := room_cells (uh HBW)
          obtain ⟨t0, t1, -⟩ := (uh HD9).cells
          have HDF := hide (((uh HD9).room (uh HRB) (.slice va l.length vc) (.int .i64 a.now)).ot (Nat.le_of_lt (uh HRB)) (uh HM9))
          have HF := hide (room_below (uh HBW) (.slice va l.length vc) (.int .i64 a.now))
          have hDR := hide ((uh HD9).hD)
          go_wp2_with fail
          refine bodyPost_ret (v := .tuple #[.agg #[(.slice va l.length vc), .int .i64 a.now], .int .i64 0]) (by simp [results, Tryz.results129, go_sem, r0, r1]) rfl ?_
          show DoR RR w _ _
          rw [uh HK5]
          exact ⟨⟨_, rfl, uh HDF⟩, uh HF⟩
    · have HRD := hide (room_cells (uh HBB))
      have HF := hide (room_below (uh HBB) (.slice none 0 0) (.int .i64 0))
      have HK2 : Hid (RR = no er) := by show _ = _; rw [uh HK, if_pos her]
      obtain ⟨r0, r1, z0, z1⟩ := uh HRD
      have hern : (er != 0) = true := by simpa using her
      clear HRD HK HBB HA
      go_wp2_with fail
      refine bodyPost_ret (v := .tuple #[.agg #[.slice none 0 0, .int .i64 0], .int .i64 er]) (by simp [results, Tryz.results129, go_sem, r0, r1]) rfl ?_
      show DoR RR w _ _
      rw [uh HK2]
      exact ⟨⟨_, rfl, ot_nil _ _⟩, uh HF⟩
end Go.Proofs.YtidhceebafmlkaaGreatDoor.Ca
