import Derived.Test.YtidhceebafmlkaaGreatDoorCaKind
namespace Go.Proofs.YtidhceebafmlkaaGreatDoor.Ca
open Go.RowKit Cu Tr Pm Pt
set_option maxRecDepth 100000 in
set_option maxHeartbeats 4000000 in
theorem mkdir_any (A : Nat) (x : Option Addr) (n cap : Nat) (dx : Option Addr) (dc : Nat) (a : Ac) (w : World) (h : At w A x n cap dx dc a) (hp : Okp a.ns a.p) :
    Calls Tryz.prog 124 #[.pointer (some ⟨A, 0, none⟩)] w (DoR a.mkdir w) := by
  obtain ⟨pd, hpd, hdr⟩ := hp.dir
  obtain ⟨pm, hpm, hpn, -⟩ := hp.node h.chk
  obtain ⟨b1, hb1⟩ : ∃ b, b = nameless a.p := ⟨_, rfl⟩
  obtain ⟨b2, hb2⟩ : ∃ b, b = isN a.here := ⟨_, rfl⟩
  have HNM : Hid (∀ W, At W A x n cap dx dc a → Calls Tryz.prog 189 #[.agg (pv a.p)] W fun e w' => e = .returned (.bool b1) ∧ Below W.heap.size W w') := fun W _ => by rw [hb1]; exact isNameless_any a.p W
  have HH : Hid (∀ W, At W A x n cap dx dc a → Calls Tryz.prog 186 #[.pointer (some ⟨A, 0, none⟩)] W fun e w' => (∃ v, e = .returned v ∧ IsNd w' v a.here) ∧ Below W.heap.size W w') := fun W hW => here_any A x n cap dx dc a pm W hW hpm hpn
  have HIN : Hid (∀ v W, IsNd W v a.here → Calls Tryz.prog 190 #[v] W fun e w' => e = .returned (.bool b2) ∧ Below W.heap.size W w') := fun v W hW => by rw [hb2]; exact isNone_any v a.here W hW
  have HMC : Hid (∀ W, At W A x n cap dx dc a → Calls Tryz.prog 191 #[.pointer (some ⟨A, 0, none⟩), .int .i64 a.p.dir] W fun e w' => e = .returned (.int .i64 (a.mayCome a.p.dir)) ∧ Below W.heap.size W w') := fun W hW => by rw [hpd]; exact mayCome_any A x n cap dx dc a pd W hW hdr.2.1
  have HDE : Hid (∀ W, At W A x n cap dx dc a → Calls Tryz.prog 192 #[.agg #[.slice x n cap, .int .i64 a.now], .int .i64 a.p.dir] W fun e w' => e = .returned (.int .i64 (depthV a.now a.ns a.p.dir)) ∧ Below W.heap.size W w') := fun W hW => depth_any x n cap a.ns a.now a.p.dir W hW.ng (sm_of hW.chk)
  have HHF : Hid (∀ W, At W A x n cap dx dc a → Calls Tryz.prog 193 #[.pointer (some ⟨A, 0, none⟩)] W fun e w' => e = .returned (.int .i64 a.hasFree) ∧ Below W.heap.size W w') := fun W hW => hasFree_any A x n cap dx dc a W hW
  have HCK := hide h.chk
  have HDR := hide hdr
  have HNN : Hid (∀ W, At W A x n cap dx dc a → Calls Tryz.prog 196 #[.pointer (some ⟨A, 0, none⟩), .int .u8 2] W fun e w' => e = .returned (.agg (na (a.newNode 2) nl nl)) ∧ Below W.heap.size W w') := fun W hW => newNode_any A x n cap dx dc a 2 2 W hW rfl
  have HADD : Hid (∀ B D v l W, Df W B D a.now v l → B ≤ W.heap.size → pd < l.length → (l.getD pd zNv).1.kind = 2 → 2 ≤ l.length → l.length ≤ 1000000 → Rises (l.getD pd zNv).1.list → (l.getD pd zNv).1.list.length ≤ 100000 → (-1000000000 ≤ (l.getD pd zNv).1.links ∧ (l.getD pd zNv).1.links ≤ 1000000000) → Calls Tryz.prog 195 #[.pointer (some ⟨D, 0, none⟩), .agg (pv a.p), .agg (na (a.newNode 2) nl nl)] W fun e w' => e = .returned (.int .i64 (freeAt (l.map (·.1)))) ∧ (∃ v' l', Df w' B D a.now v' l' ∧ l'.map (·.1) = (addD a.now (l.map (·.1)) pd a.p.name (a.newNode 2)).1) ∧ Below B W w') := fun B D v l W h1 h2 h3 h4 h5 h6 h7 h8 h9 => by
    have e : pv a.p = pv ⟨(pd : Int), a.p.name, a.p.node, a.p.dirs⟩ := by rw [← hpd]
    rw [e]
    exact add_any B D a.now v l pd a.p.name a.p.node a.p.dirs (a.newNode 2) W h1 h2 h3 h4 h5 h6 h7 h8 h9 rfl rfl
  have HPD : Hid (a.p.dir.toNat = pd) := by show _ = _; rw [hpd]; rfl
  clear hp hpd hdr hpm hpn
  obtain ⟨er, hER⟩ : ∃ er, Hid (er = orP [wh (nameless a.p || !isN a.here) 7, a.mayCome a.p.dir, wh (decide (32 ≤ depthV a.now a.ns a.p.dir)) 3, a.hasFree]) := ⟨_, rfl⟩
  obtain ⟨RR, hRR⟩ : ∃ RR, RR = a.mkdir := ⟨_, rfl⟩
  rw [← hRR]
  have HK : Hid (RR = if er ≠ 0 then no er else yes a.now (addD a.now a.ns a.p.dir.toNat a.p.name (a.newNode 2)).1) := by show _ = _; rw [hRR, uh hER]; rfl
  clear hRR
  obtain ⟨w1, hw1⟩ : ∃ w1, w1 = w.alloc (.cells zTree 24) := ⟨_, rfl⟩
  have hA1 : At w1 A x n cap dx dc a := by rw [hw1]; exact h.al _
  have HA0 : Hid (At w1.drew A x n cap dx dc a) := hA1.dr
  have BB0 : Hid (Below w1.heap.size w1 w1.drew) := below_drew w1 1
  have HW1 := hide hw1
  clear h hw1 hA1
  go_enter Tryz.func124, Tryz.ntmps124
  go_upto_region 1 with fail
  rw [← uh HW1]
  go_cut [4] (fun u wx => u = .int .i64 er ∧ Hid (At wx A x n cap dx dc a) ∧ Hid (Below w1.heap.size w1 wx))
  case first =>
    rw [← hb1, ← hb2] at hER
    clear hb1 hb2
    cases b1 with
    | true =>
      rw [Bool.true_or] at hER
      go_wp2_with fail
      refine wp_region_held_drew (S := (fun w' => At w' A x n cap dx dc a)) (by kernel_rfl) (uh HA0) (fun hHeld => ?_)
      refine tk 0 rfl (v := ?v43) (.inl ⟨by rfl, ?hy43⟩) ?rest43
      case hy43 => intro w hSw; have hSc := At.cells hSw; go_simp; try with_reducible rfl
      try simp only [pS]
      refine tk 1 rfl (v := ?v44) (.inl ⟨by rfl, ?hy44⟩) ?rest44
      case hy44 => intro w hSw; have hSc := At.cells hSw; go_simp; try with_reducible rfl
      try simp only [pS]
      refine tk 2 rfl (v := ?v45) (.inl ⟨by rfl, ?hy45⟩) ?rest45
      case hy45 => intro w hSw; have hSc := At.cells hSw; go_simp; try with_reducible rfl
      try simp only [pS]
      refine tk 3 rfl (v := ?v46) (.inl ⟨by rfl, ?hy46⟩) ?rest46
      case hy46 => intro w hSw; have hSc := At.cells hSw; go_simp; try with_reducible rfl
      try simp only [pS]
      refine tk 12 rfl (v := ?v47) (.inl ⟨by rfl, ?hy47⟩) ?rest47
      case hy47 => intro w hSw; have hSc := At.cells hSw; go_simp; try with_reducible rfl
      try simp only [pS]
      refine tk 13 rfl (v := ?v48) (.inl ⟨by rfl, ?hy48⟩) ?rest48
      case hy48 => intro w hSw; have hSc := At.cells hSw; go_simp; try with_reducible rfl
      try simp only [pS]
      refine tk 14 rfl (v := ?v49) (.inl ⟨by rfl, ?hy49⟩) ?rest49
      case hy49 => intro w hSw; have hSc := At.cells hSw; go_simp; try with_reducible rfl
      try simp only [pS]
      refine tk 15 rfl (v := ?v50) (.inl ⟨by rfl, ?hy50⟩) ?rest50
      case hy50 => intro w hSw; have hSc := At.cells hSw; go_simp; try with_reducible rfl
      try simp only [pS]
      refine tk 16 rfl (v := ?v51) (.inl ⟨by rfl, ?hy51⟩) ?rest51
      case hy51 => intro w hSw; have hSc := At.cells hSw; go_simp; try with_reducible rfl
      try simp only [pS]
      refine tk 17 rfl (v := ?v52) (.inl ⟨by rfl, ?hy52⟩) ?rest52
      case hy52 => intro w hSw; have hSc := At.cells hSw; go_simp; try with_reducible rfl
      try simp only [pS]
      refine tk 19 rfl (v := ?v53) (.inl ⟨by rfl, ?hy53⟩) ?rest53
      case hy53 => intro w hSw; have hSc := At.cells hSw; go_simp; try with_reducible rfl
      try simp only [pS]
      refine tk 20 rfl (v := ?v54) (.inl ⟨by rfl, ?hy54⟩) ?rest54
      case hy54 => intro w hSw; have hSc := At.cells hSw; go_simp; try with_reducible rfl
      try simp only [pS]
      refine tk 21 rfl (v := ?v55) (.inl ⟨by rfl, ?hy55⟩) ?rest55
      case hy55 => intro w hSw; have hSc := At.cells hSw; go_simp; try with_reducible rfl
      try simp only [pS]
      refine tk 22 rfl (v := ?v56) (.inl ⟨by rfl, ?hy56⟩) ?rest56
      case hy56 => intro w hSw; have hSc := At.cells hSw; go_simp; try with_reducible rfl
      try simp only [pS]
      refine tk 23 rfl (v := ?v57) (.inl ⟨by rfl, ?hy57⟩) ?rest57
      case hy57 => intro w hSw; have hSc := At.cells hSw; go_simp; try with_reducible rfl
      try simp only [pS]
      refine tk 24 rfl (v := ?v58) (.inl ⟨by rfl, ?hy58⟩) ?rest58
      case hy58 => intro w hSw; have hSc := At.cells hSw; go_simp; try with_reducible rfl
      try simp only [pS]
      refine tk 25 rfl (v := ?v59) (.inl ⟨by rfl, ?hy59⟩) ?rest59
      case hy59 => intro w hSw; have hSc := At.cells hSw; go_simp; try with_reducible rfl
      try simp only [pS]
      refine tk 26 rfl (v := ?v60) (.inl ⟨by rfl, ?hy60⟩) ?rest60
      case hy60 => intro w hSw; have hSc := At.cells hSw; go_simp; try with_reducible rfl
      try simp only [pS]
      refine tk 27 rfl (v := ?v61) (.inl ⟨by rfl, ?hy61⟩) ?rest61
      case hy61 => intro w hSw; have hSc := At.cells hSw; go_simp; try with_reducible rfl
      try simp only [pS]
      refine tk 31 rfl (v := ?v62) (.inl ⟨by rfl, ?hy62⟩) ?rest62
      case hy62 => intro w hSw; have hSc := At.cells hSw; go_simp; try with_reducible rfl
      try simp only [pS]
      refine wpAnyH_ready (rs := [4]) (by kernel_rfl) (by simp) ?_
      refine rc rfl fun K hK => ?_
      go_simp
      refine (uh HNM _ (uh HA0)).mono ?_; rintro e w1 ⟨rfl, hb1⟩; have HA1 := hide ((uh HA0).below hb1); have BB1 := hide ((uh BB0).trans (hb1.mono (uh BB0).size)); clear hb1
      go_wp2_with fail
      refine hK.out _ _ (by first | exact (uh HA1) | assumption | (dsimp only; assumption)) (fun hHeld2 => ?_)
      clear hK K
      try simp only [pS]
      refine tk 5 rfl (v := ?v63) (.inl ⟨by rfl, ?hy63⟩) ?rest63
      case hy63 => intro w hSw; have hSc := At.cells hSw; go_simp; try with_reducible rfl
      try simp only [pS]
      refine tk 6 rfl (v := undef) (.inr ⟨by rfl, rfl⟩) ?_
      try simp only [pS]
      refine tk 7 rfl (v := undef) (.inr ⟨by rfl, rfl⟩) ?_
      try simp only [pS]
      refine tk 8 rfl (v := undef) (.inr ⟨by rfl, rfl⟩) ?_
      try simp only [pS]
      refine tk 9 rfl (v := undef) (.inr ⟨by rfl, rfl⟩) ?_
      try simp only [pS]
      refine tk 10 rfl (v := ?v68) (.inl ⟨by rfl, ?hy68⟩) ?rest68
      case hy68 => intro w hSw; have hSc := At.cells hSw; go_simp; try with_reducible rfl
      try simp only [pS]
      refine wpAnyH_ready (rs := [11]) (by kernel_rfl) (by simp) ?_
      refine rc rfl fun K hK => ?_
      go_simp
      refine (when_any _ _ _).mono ?_; rintro e ww11 ⟨rfl, hw11⟩; subst hw11
      go_wp2_with fail
      refine hK.out _ _ (by first | exact (uh HA1) | assumption | (dsimp only; assumption)) (fun hHeld2 => ?_)
      clear hK K
      try simp only [pS]
      refine wpAnyH_ready (rs := [18]) (by kernel_rfl) (by simp) ?_
      refine rc rfl fun K hK => ?_
      go_simp
      refine (uh HMC _ (uh HA1)).mono ?_; rintro e w2 ⟨rfl, hb2⟩; have HA2 := hide ((uh HA1).below hb2); have BB2 := hide ((uh BB1).trans (hb2.mono (uh BB1).size)); clear hb2
      go_wp2_with fail
      refine hK.out _ _ (by first | exact (uh HA2) | assumption | (dsimp only; assumption)) (fun hHeld2 => ?_)
      clear hK K
      try simp only [pS]
      refine wpAnyH_ready (rs := [28]) (by kernel_rfl) (by simp) ?_
      refine rc rfl fun K hK => ?_
      go_simp
      refine (uh HDE _ (uh HA2)).mono ?_; rintro e w3 ⟨rfl, hb3⟩; have HA3 := hide ((uh HA2).below hb3); have BB3 := hide ((uh BB2).trans (hb3.mono (uh BB2).size)); clear hb3
      go_wp2_with fail
      refine hK.out _ _ (by first | exact (uh HA3) | assumption | (dsimp only; assumption)) (fun hHeld2 => ?_)
      clear hK K
      try simp only [pS]
      refine tk 29 rfl (v := ?v69) (.inl ⟨by rfl, ?hy69⟩) ?rest69
      case hy69 => intro w hSw; have hSc := At.cells hSw; go_simp; try with_reducible rfl
      try simp only [pS]
      refine wpAnyH_ready (rs := [30]) (by kernel_rfl) (by simp) ?_
      refine rc rfl fun K hK => ?_
      go_simp
      refine (when_any _ _ _).mono ?_; rintro e ww30 ⟨rfl, hw30⟩; subst hw30
      go_wp2_with fail
      refine hK.out _ _ (by first | exact (uh HA3) | assumption | (dsimp only; assumption)) (fun hHeld2 => ?_)
      clear hK K
      try simp only [pS]
      refine wpAnyH_ready (rs := [32]) (by kernel_rfl) (by simp) ?_
      refine rc rfl fun K hK => ?_
      go_simp
      refine (uh HHF _ (uh HA3)).mono ?_; rintro e w4 ⟨rfl, hb4⟩; have HA4 := hide ((uh HA3).below hb4); have BB4 := hide ((uh BB3).trans (hb4.mono (uh BB3).size)); clear hb4
      go_wp2_with fail
      refine hK.out _ _ (by first | exact (uh HA4) | assumption | (dsimp only; assumption)) (fun hHeld2 => ?_)
      clear hK K
      try simp only [pS]
      refine wpAnyH_ready (rs := [33]) (by kernel_rfl) (by simp) ?_
      refine rc rfl fun K hK => ?_
      go_simp
      skip
      go_wp2_with fail
      refine hK.out _ _ (by first | exact ((uh HA4).al _) | assumption | (dsimp only; assumption)) (fun hHeld2 => ?_)
      clear hK K
      try simp only [pS]
      refine wpAnyH_ready (rs := [34]) (by kernel_rfl) (by simp) ?_
      refine rc rfl fun K hK => ?_
      go_simp
      refine (or4_any _ _ _ _ _ _ rfl).mono ?_; rintro e ww34 ⟨rfl, hw34⟩; subst hw34
      go_wp2_with fail
      refine hK.out _ _ (by first | exact ((uh HA4).al _) | assumption | (dsimp only; assumption)) (fun hHeld2 => ?_)
      clear hK K
      try simp only [pS]
      refine tk 35 rfl (v := ?v70) (.inl ⟨by rfl, ?hy70⟩) ?rest70
      case hy70 => intro w hSw; have hSc := At.cells hSw; go_simp; try with_reducible rfl
      try simp only [pS]
      refine wpAnyH_done (by kernel_rfl) ?_ _
      go_wp2_with fail
      go_meet
      exact ⟨by rw [uh hER], (uh HA4).al _, (uh BB4).alloc (uh BB4).size _⟩
    | false =>
      rw [Bool.false_or] at hER
      go_wp2_with fail
      refine wp_region_held_drew (S := (fun w' => At w' A x n cap dx dc a)) (by kernel_rfl) (uh HA0) (fun hHeld => ?_)
      refine tk 0 rfl (v := ?v71) (.inl ⟨by rfl, ?hy71⟩) ?rest71
      case hy71 => intro w hSw; have hSc := At.cells hSw; go_simp; try with_reducible rfl
      try simp only [pS]
      refine tk 1 rfl (v := ?v72) (.inl ⟨by rfl, ?hy72⟩) ?rest72
      case hy72 => intro w hSw; have hSc := At.cells hSw; go_simp; try with_reducible rfl
      try simp only [pS]
      refine tk 2 rfl (v := ?v73) (.inl ⟨by rfl, ?hy73⟩) ?rest73
      case hy73 => intro w hSw; have hSc := At.cells hSw; go_simp; try with_reducible rfl
      try simp only [pS]
      refine tk 3 rfl (v := ?v74) (.inl ⟨by rfl, ?hy74⟩) ?rest74
      case hy74 => intro w hSw; have hSc := At.cells hSw; go_simp; try with_reducible rfl
      try simp only [pS]
      refine tk 12 rfl (v := ?v75) (.inl ⟨by rfl, ?hy75⟩) ?rest75
      case hy75 => intro w hSw; have hSc := At.cells hSw; go_simp; try with_reducible rfl
      try simp only [pS]
      refine tk 13 rfl (v := ?v76) (.inl ⟨by rfl, ?hy76⟩) ?rest76
      case hy76 => intro w hSw; have hSc := At.cells hSw; go_simp; try with_reducible rfl
      try simp only [pS]
      refine tk 14 rfl (v := ?v77) (.inl ⟨by rfl, ?hy77⟩) ?rest77
      case hy77 => intro w hSw; have hSc := At.cells hSw; go_simp; try with_reducible rfl
      try simp only [pS]
      refine tk 15 rfl (v := ?v78) (.inl ⟨by rfl, ?hy78⟩) ?rest78
      case hy78 => intro w hSw; have hSc := At.cells hSw; go_simp; try with_reducible rfl
      try simp only [pS]
      refine tk 16 rfl (v := ?v79) (.inl ⟨by rfl, ?hy79⟩) ?rest79
      case hy79 => intro w hSw; have hSc := At.cells hSw; go_simp; try with_reducible rfl
      try simp only [pS]
      refine tk 17 rfl (v := ?v80) (.inl ⟨by rfl, ?hy80⟩) ?rest80
      case hy80 => intro w hSw; have hSc := At.cells hSw; go_simp; try with_reducible rfl
      try simp only [pS]
      refine tk 19 rfl (v := ?v81) (.inl ⟨by rfl, ?hy81⟩) ?rest81
      case hy81 => intro w hSw; have hSc := At.cells hSw; go_simp; try with_reducible rfl
      try simp only [pS]
      refine tk 20 rfl (v := ?v82) (.inl ⟨by rfl, ?hy82⟩) ?rest82
      case hy82 => intro w hSw; have hSc := At.cells hSw; go_simp; try with_reducible rfl
      try simp only [pS]
      refine tk 21 rfl (v := ?v83) (.inl ⟨by rfl, ?hy83⟩) ?rest83
      case hy83 => intro w hSw; have hSc := At.cells hSw; go_simp; try with_reducible rfl
      try simp only [pS]
      refine tk 22 rfl (v := ?v84) (.inl ⟨by rfl, ?hy84⟩) ?rest84
      case hy84 => intro w hSw; have hSc := At.cells hSw; go_simp; try with_reducible rfl
      try simp only [pS]
      refine tk 23 rfl (v := ?v85) (.inl ⟨by rfl, ?hy85⟩) ?rest85
      case hy85 => intro w hSw; have hSc := At.cells hSw; go_simp; try with_reducible rfl
      try simp only [pS]
      refine tk 24 rfl (v := ?v86) (.inl ⟨by rfl, ?hy86⟩) ?rest86
      case hy86 => intro w hSw; have hSc := At.cells hSw; go_simp; try with_reducible rfl
      try simp only [pS]
      refine tk 25 rfl (v := ?v87) (.inl ⟨by rfl, ?hy87⟩) ?rest87
      case hy87 => intro w hSw; have hSc := At.cells hSw; go_simp; try with_reducible rfl
      try simp only [pS]
      refine tk 26 rfl (v := ?v88) (.inl ⟨by rfl, ?hy88⟩) ?rest88
      case hy88 => intro w hSw; have hSc := At.cells hSw; go_simp; try with_reducible rfl
      try simp only [pS]
      refine tk 27 rfl (v := ?v89) (.inl ⟨by rfl, ?hy89⟩) ?rest89
      case hy89 => intro w hSw; have hSc := At.cells hSw; go_simp; try with_reducible rfl
      try simp only [pS]
      refine tk 31 rfl (v := ?v90) (.inl ⟨by rfl, ?hy90⟩) ?rest90
      case hy90 => intro w hSw; have hSc := At.cells hSw; go_simp; try with_reducible rfl
      try simp only [pS]
      refine wpAnyH_ready (rs := [4]) (by kernel_rfl) (by simp) ?_
      refine rc rfl fun K hK => ?_
      go_simp
      refine (uh HNM _ (uh HA0)).mono ?_; rintro e w1 ⟨rfl, hb1⟩; have HA1 := hide ((uh HA0).below hb1); have BB1 := hide ((uh BB0).trans (hb1.mono (uh BB0).size)); clear hb1
      go_wp2_with fail
      refine hK.out _ _ (by first | exact (uh HA1) | assumption | (dsimp only; assumption)) (fun hHeld2 => ?_)
      clear hK K
      try simp only [pS]
      refine tk 5 rfl (v := ?v91) (.inl ⟨by rfl, ?hy91⟩) ?rest91
      case hy91 => intro w hSw; have hSc := At.cells hSw; go_simp; try with_reducible rfl
      try simp only [pS]
      refine tk 6 rfl (v := ?v92) (.inl ⟨by rfl, ?hy92⟩) ?rest92
      case hy92 => intro w hSw; have hSc := At.cells hSw; go_simp; try with_reducible rfl
      try simp only [pS]
      refine wpAnyH_ready (rs := [7]) (by kernel_rfl) (by simp) ?_
      refine rc rfl fun K hK => ?_
      go_simp
      refine (uh HH _ (uh HA1)).mono ?_; rintro e w2 ⟨⟨v2, rfl, hnd2⟩, hb2⟩; have HN2 := hide hnd2; have HA2 := hide ((uh HA1).below hb2); have BB2 := hide ((uh BB1).trans (hb2.mono (uh BB1).size)); clear hb2; clear hnd2
      go_wp2_with fail
      refine hK.out _ _ (by first | exact (uh HA2) | assumption | (dsimp only; assumption)) (fun hHeld2 => ?_)
      clear hK K
      try simp only [pS]
      refine wpAnyH_ready (rs := [8]) (by kernel_rfl) (by simp) ?_
      refine rc rfl fun K hK => ?_
      go_simp
      refine (uh HIN _ _ (uh HN2)).mono ?_; rintro e w3 ⟨rfl, hb3⟩; have HA3 := hide ((uh HA2).below hb3); have BB3 := hide ((uh BB2).trans (hb3.mono (uh BB2).size)); clear hb3
      go_wp2_with fail
      refine hK.out _ _ (by first | exact (uh HA3) | assumption | (dsimp only; assumption)) (fun hHeld2 => ?_)
      clear hK K
      try simp only [pS]
      refine tk 9 rfl (v := ?v93) (.inl ⟨by rfl, ?hy93⟩) ?rest93
      case hy93 => intro w hSw; have hSc := At.cells hSw; go_simp; try with_reducible rfl
      try simp only [pS]
      refine tk 10 rfl (v := ?v94) (.inl ⟨by rfl, ?hy94⟩) ?rest94
      case hy94 => intro w hSw; have hSc := At.cells hSw; go_simp; try with_reducible rfl
      try simp only [pS]
      refine wpAnyH_ready (rs := [11]) (by kernel_rfl) (by simp) ?_
      refine rc rfl fun K hK => ?_
      go_simp
      refine (when_any _ _ _).mono ?_; rintro e ww11 ⟨rfl, hw11⟩; subst hw11
      go_wp2_with fail
      refine hK.out _ _ (by first | exact (uh HA3) | assumption | (dsimp only; assumption)) (fun hHeld2 => ?_)
      clear hK K
      try simp only [pS]
      refine wpAnyH_ready (rs := [18]) (by kernel_rfl) (by simp) ?_
      refine rc rfl fun K hK => ?_
      go_simp
      refine (uh HMC _ (uh HA3)).mono ?_; rintro e w4 ⟨rfl, hb4⟩; have HA4 := hide ((uh HA3).below hb4); have BB4 := hide ((uh BB3).trans (hb4.mono (uh BB3).size)); clear hb4
      go_wp2_with fail
      refine hK.out _ _ (by first | exact (uh HA4) | assumption | (dsimp only; assumption)) (fun hHeld2 => ?_)
      clear hK K
      try simp only [pS]
      refine wpAnyH_ready (rs := [28]) (by kernel_rfl) (by simp) ?_
      refine rc rfl fun K hK => ?_
      go_simp
      refine (uh HDE _ (uh HA4)).mono ?_; rintro e w5 ⟨rfl, hb5⟩; have HA5 := hide ((uh HA4).below hb5); have BB5 := hide ((uh BB4).trans (hb5.mono (uh BB4).size)); clear hb5
      go_wp2_with fail
      refine hK.out _ _ (by first | exact (uh HA5) | assumption | (dsimp only; assumption)) (fun hHeld2 => ?_)
      clear hK K
      try simp only [pS]
      refine tk 29 rfl (v := ?v95) (.inl ⟨by rfl, ?hy95⟩) ?rest95
      case hy95 => intro w hSw; have hSc := At.cells hSw; go_simp; try with_reducible rfl
      try simp only [pS]
      refine wpAnyH_ready (rs := [30]) (by kernel_rfl) (by simp) ?_
      refine rc rfl fun K hK => ?_
      go_simp
      refine (when_any _ _ _).mono ?_; rintro e ww30 ⟨rfl, hw30⟩; subst hw30
      go_wp2_with fail
      refine hK.out _ _ (by first | exact (uh HA5) | assumption | (dsimp only; assumption)) (fun hHeld2 => ?_)
      clear hK K
      try simp only [pS]
      refine wpAnyH_ready (rs := [32]) (by kernel_rfl) (by simp) ?_
      refine rc rfl fun K hK => ?_
      go_simp
      refine (uh HHF _ (uh HA5)).mono ?_; rintro e w6 ⟨rfl, hb6⟩; have HA6 := hide ((uh HA5).below hb6); have BB6 := hide ((uh BB5).trans (hb6.mono (uh BB5).size)); clear hb6
      go_wp2_with fail
      refine hK.out _ _ (by first | exact (uh HA6) | assumption | (dsimp only; assumption)) (fun hHeld2 => ?_)
      clear hK K
      try simp only [pS]
      refine wpAnyH_ready (rs := [33]) (by kernel_rfl) (by simp) ?_
      refine rc rfl fun K hK => ?_
      go_simp
      skip
      go_wp2_with fail
      refine hK.out _ _ (by first | exact ((uh HA6).al _) | assumption | (dsimp only; assumption)) (fun hHeld2 => ?_)
      clear hK K
      try simp only [pS]
      refine wpAnyH_ready (rs := [34]) (by kernel_rfl) (by simp) ?_
      refine rc rfl fun K hK => ?_
      go_simp
      refine (or4_any _ _ _ _ _ _ rfl).mono ?_; rintro e ww34 ⟨rfl, hw34⟩; subst hw34
      go_wp2_with fail
      refine hK.out _ _ (by first | exact ((uh HA6).al _) | assumption | (dsimp only; assumption)) (fun hHeld2 => ?_)
      clear hK K
      try simp only [pS]
      refine tk 35 rfl (v := ?v96) (.inl ⟨by rfl, ?hy96⟩) ?rest96
      case hy96 => intro w hSw; have hSc := At.cells hSw; go_simp; try with_reducible rfl
      try simp only [pS]
      refine wpAnyH_done (by kernel_rfl) ?_ _
      go_wp2_with fail
      go_meet
      exact ⟨by rw [uh hER], (uh HA6).al _, (uh BB6).alloc (uh BB6).size _⟩
  case rest =>
    obtain ⟨rfl, HA, HBB⟩ := hcut
    rw [uh HW1] at HBB
    clear HA0 BB0 hER
    by_cases her : er = 0
    · have HK2 : Hid (RR = yes a.now (addD a.now a.ns a.p.dir.toNat a.p.name (a.newNode 2)).1) := by show _ = _; rw [uh HK, if_neg (fun q => q her)]
      have hern : (er != 0) = false := by simpa using her
      subst her
      clear HK hern
      have HRB : Hid (w.heap.size < wc.heap.size) := by show _ < _; have := (uh HBB).size; simp at this; omega
      have HCP := hide (copy_any (uh HA))
      go_wp2_with fail
      refine (uh HCP).mono ?_
      rintro e w2 ⟨⟨D, v2, l2, rfl, hdf2, hm2⟩, hb2⟩
      obtain ⟨k1, k2, k3, k4, k5, k6⟩ := dir_ok (uh HCK) (uh HDR) hm2
      have hln : 2 ≤ l2.length ∧ l2.length ≤ 1000000 := by have q := congrArg List.length hm2; have q2 := (uh HA).len; rw [List.length_map] at q; omega
      have HD2 := hide hdf2
      have HA2 := hide ((uh HA).below hb2)
      have CB2 := hide hb2
      have HMl := hide hm2
      have HA3 : Hid (At w2.drew A x n cap dx dc a) := (uh HA2).dr
      have HD3 : Hid (Df w2.drew wc.heap.size D a.now v2 l2) := (uh HD2).dr
      have CB3 : Hid (Below wc.heap.size wc w2.drew) := below_dr hb2
      have HK1 := hide k1
      have HK22 := hide k2
      have HK3 := hide k3
      have HK4 := hide k4
      have HK5 := hide k5
      have HK6 := hide k6
      have HLN := hide hln
      clear hdf2 hm2 hb2 HCP k1 k2 k3 k4 k5 k6 hln
      go_wp2_with fail
      refine wp_region_held_drew (S := (fun w' => At w' A x n cap dx dc a)) (by kernel_rfl) (uh HA3) (fun hHeld => ?_)
      refine tk 0 rfl (v := ?v97) (.inl ⟨by rfl, ?hy97⟩) ?rest97
      case hy97 => intro w hSw; have hSc := At.cells hSw; go_simp; try with_reducible rfl
      try simp only [pS]
      refine tk 1 rfl (v := ?v98) (.inl ⟨by rfl, ?hy98⟩) ?rest98
      case hy98 => intro w hSw; have hSc := At.cells hSw; go_simp; try with_reducible rfl
      try simp only [pS]
      refine tk 2 rfl (v := ?v99) (.inl ⟨by rfl, ?hy99⟩) ?rest99
      case hy99 => intro w hSw; have hSc := At.cells hSw; go_simp; try with_reducible rfl
      try simp only [pS]
      refine tk 3 rfl (v := ?v100) (.inl ⟨by rfl, ?hy100⟩) ?rest100
      case hy100 => intro w hSw; have hSc := At.cells hSw; go_simp; try with_reducible rfl
      try simp only [pS]
      refine tk 4 rfl (v := ?v101) (.inl ⟨by rfl, ?hy101⟩) ?rest101
      case hy101 => intro w hSw; have hSc := At.cells hSw; go_simp; try with_reducible rfl
      try simp only [pS]
      refine tk 5 rfl (v := ?v102) (.inl ⟨by rfl, ?hy102⟩) ?rest102
      case hy102 => intro w hSw; have hSc := At.cells hSw; go_simp; try with_reducible rfl
      try simp only [pS]
      refine wpAnyH_ready (rs := [6]) (by kernel_rfl) (by simp) ?_
      refine rc rfl fun K hK => ?_
      go_simp
      refine (uh HNN _ (uh HA3)).mono ?_; rintro e w4 ⟨rfl, hb4⟩; have HA4 := hide ((uh HA3).below hb4); have HD4 := hide ((uh HD3).below hb4); have CB4 := hide ((uh CB3).trans (hb4.mono (uh CB3).size)); have HAD := hide (uh HADD wc.heap.size D v2 l2 w4 (uh HD4) (uh CB4).size (uh HK1) (uh HK22) (uh HLN).1 (uh HLN).2 (uh HK3) (uh HK4) ⟨uh HK5, uh HK6⟩); clear hb4
      go_wp2_with fail
      refine hK.out _ _ (by first | exact (uh HA4) | assumption | (dsimp only; assumption)) (fun hHeld2 => ?_)
      clear hK K
      try simp only [pS]
      refine wpAnyH_ready (rs := [7]) (by kernel_rfl) (by simp) ?_
      refine rc rfl fun K hK => ?_
      go_simp
      refine (uh HAD).mono ?_; rintro e w5 ⟨rfl, ⟨v5, l5, hdf5, hm5⟩, hb5⟩; obtain ⟨va5, vc5, hv5⟩ := own_sl hdf5.row; subst hv5; have CB5 := hide ((uh CB4).trans hb5); have HA5 := hide ((uh HA).below (uh CB5)); have HD5 := hide hdf5; have HM5x := hide hm5; clear hdf5 hm5 hb5
      go_wp2_with fail
      refine hK.out _ _ (by first | exact (uh HA5) | assumption | (dsimp only; assumption)) (fun hHeld2 => ?_)
      clear hK K
      try simp only [pS]
      refine wpAnyH_done (by kernel_rfl) ?_ _
      have HM5 : Hid (l5.map (·.1) = (yes a.now (addD a.now a.ns a.p.dir.toNat a.p.name (a.newNode 2)).1).1.1) := by show _ = _; rw [uh HM5x, uh HMl, uh HPD]; rfl
      have HBW := hide ((uh HBB).trans ((uh CB5).mono (by have := uh HRB; have := (uh HBB).size; omega)))
      obtain ⟨r0, r1, z0, z1⟩ := room_cells (uh HBW)
      obtain ⟨t0, t1, -⟩ := (uh HD5).cells
      have HDF := hide (((uh HD5).room (uh HRB) (.slice va5 l5.length vc5) (.int .i64 a.now)).ot (Nat.le_of_lt (uh HRB)) (uh HM5))
      have HF := hide (room_below (uh HBW) (.slice va5 l5.length vc5) (.int .i64 a.now))
      have hDR := hide ((uh HD5).hD)
      go_wp2_with fail
      refine bodyPost_ret (v := .tuple #[.agg #[(.slice va5 l5.length vc5), .int .i64 a.now], .int .i64 0]) (by simp [results, Tryz.results124, go_sem, r0, r1]) rfl ?_
      show DoR RR w _ _
      rw [uh HK2]
      exact ⟨⟨_, rfl, uh HDF⟩, uh HF⟩
    · have HRD := hide (room_cells (uh HBB))
      have HF := hide (room_below (uh HBB) (.slice none 0 0) (.int .i64 0))
      have HK2 : Hid (RR = no er) := by show _ = _; rw [uh HK, if_pos her]
      obtain ⟨r0, r1, z0, z1⟩ := uh HRD
      have hern : (er != 0) = true := by simpa using her
      clear HRD HK HBB HA
      go_wp2_with fail
      refine bodyPost_ret (v := .tuple #[.agg #[.slice none 0 0, .int .i64 0], .int .i64 er]) (by simp [results, Tryz.results124, go_sem, r0, r1]) rfl ?_
      show DoR RR w _ _
      rw [uh HK2]
      exact ⟨⟨_, rfl, ot_nil _ _⟩, uh HF⟩
end Go.Proofs.YtidhceebafmlkaaGreatDoor.Ca
