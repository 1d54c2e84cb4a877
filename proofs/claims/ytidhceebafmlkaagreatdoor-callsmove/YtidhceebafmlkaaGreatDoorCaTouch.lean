import Derived.Test.YtidhceebafmlkaaGreatDoorCaSym
namespace Go.Proofs.YtidhceebafmlkaaGreatDoor.Ca
open Go.RowKit Cu Tr Pm Pt
set_option maxRecDepth 100000 in
set_option maxHeartbeats 4000000 in
theorem touch_any (A : Nat) (x : Option Addr) (n cap : Nat) (dx : Option Addr) (dc : Nat) (a : Ac) (w : World) (h : At w A x n cap dx dc a) (hp : Okp a.ns a.p) :
    Calls Tryz.prog 132 #[.pointer (some ⟨A, 0, none⟩)] w (DoR a.touch w) := by
  obtain ⟨pd, hpd, hdr⟩ := hp.dir
  obtain ⟨pm, hpm, hpn, -⟩ := hp.node h.chk
  obtain ⟨er, hER⟩ : ∃ er, Hid (er = orP [wh (isN a.here) 6, wh (!ownsP a.here a.c.env && !mayP a.here a.c.env 2) 10]) := ⟨_, rfl⟩
  obtain ⟨RR, hRR⟩ : ∃ RR, RR = a.touch := ⟨_, rfl⟩
  rw [← hRR]
  have HK : Hid (RR = if er ≠ 0 then no er else yes a.now (upd a.ns a.p.node.toNat fun y => { y with time := told a.c.time a.now })) := by show _ = _; rw [hRR, uh hER]; rfl
  clear hRR
  have HPM := hide hpm
  have HPN := hide hpn
  obtain ⟨w1, hw1⟩ : ∃ w1, w1 = w.alloc (.cells zTree 24) := ⟨_, rfl⟩
  have HA1 : Hid (At w1 A x n cap dx dc a) := by rw [hw1]; exact h.al _
  have HH := hide (here_any A x n cap dx dc a pm w1 (uh HA1) hpm hpn)
  have HW1 := hide hw1
  clear h hw1 hp hpd hpm hpn hdr
  go_enter Tryz.func132, Tryz.ntmps132
  go_upto_region 1 with fail
  rw [← uh HW1]
  go_wp2_with fail
  refine (uh HH).mono ?_
  rintro e w2 ⟨⟨vh, rfl, da, ec, la, lc, hvh, -, -⟩, hb2⟩
  subst hvh
  have BB2 := hide hb2
  have HA2 := hide ((uh HA1).below hb2)
  have HIN : Hid (∀ W, Calls Tryz.prog 190 #[.agg (na a.here (.slice da a.here.data.length ec) (.slice la a.here.list.length lc))] W fun e w' => e = .returned (.bool (isN a.here)) ∧ Below W.heap.size W w') := fun W => isNone_val _ _ _ W
  have HOW : Hid (∀ W, Calls Tryz.prog 39 #[.agg (na a.here (.slice da a.here.data.length ec) (.slice la a.here.list.length lc)), .agg (ea a.c.env)] W fun e w' => e = .returned (.bool (ownsP a.here a.c.env)) ∧ Below W.heap.size W w') := fun W => owns_any a.here _ _ a.c.env W
  have HMY : Hid (∀ W, Calls Tryz.prog 37 #[.agg (na a.here (.slice da a.here.data.length ec) (.slice la a.here.list.length lc)), .agg (ea a.c.env), .int .i64 2] W fun e w' => e = .returned (.bool (mayP a.here a.c.env 2)) ∧ Below W.heap.size W w') := fun W => may_any a.here _ _ a.c.env 2 W
  obtain ⟨b1, hb1⟩ : ∃ b, b = ownsP a.here a.c.env := ⟨_, rfl⟩
  rw [← hb1] at HOW
  clear hb2 HH
  go_upto_region 2 with fail
  obtain ⟨nb, hnb⟩ : ∃ nb, nb = w2.heap.size := ⟨_, rfl⟩
  obtain ⟨w3, hw3⟩ : ∃ w3, w3 = w2.alloc (.cells (na a.here (.slice da a.here.data.length ec) (.slice la a.here.list.length lc)) 82) := ⟨_, rfl⟩
  rw [← hnb]
  rw [← hw3]
  have HS : As w3 A x n cap dx dc a nb a.here (.slice da a.here.data.length ec) (.slice la a.here.list.length lc) := by rw [hw3, hnb]; exact ⟨(uh HA2).al _, heap_alloc_new w2 _⟩
  have BB3 : Below w1.heap.size w1 w3 := by rw [hw3]; exact (uh BB2).alloc (uh BB2).size _
  have HS0 : Hid (As w3.drew A x n cap dx dc a nb a.here (.slice da a.here.data.length ec) (.slice la a.here.list.length lc)) := HS.dr
  have BB0 : Hid (Below w1.heap.size w1 w3.drew) := below_dr BB3
  clear hnb hw3 HS BB3 BB2 HA2 HA1
  go_cut [5] (fun u wx => u = .int .i64 er ∧ Hid (At wx A x n cap dx dc a) ∧ Hid (Below w1.heap.size w1 wx))
  case first =>
    rw [← hb1] at hER
    clear hb1
    cases b1 with
    | true =>
      rw [Bool.not_true, Bool.false_and] at hER
      go_wp2_with fail
      refine wp_region_held_drew (S := (fun w' => As w' A x n cap dx dc a nb a.here (.slice da a.here.data.length ec) (.slice la a.here.list.length lc))) (by kernel_rfl) (uh HS0) (fun hHeld => ?_)
      refine tk 0 rfl (v := ?v65) (.inl ⟨by rfl, ?hy65⟩) ?rest65
      case hy65 => intro w hSw; have hSc := As.fa hSw; go_simp; try with_reducible rfl
      try simp only [pS]
      refine tk 3 rfl (v := ?v66) (.inl ⟨by rfl, ?hy66⟩) ?rest66
      case hy66 => intro w hSw; have hSc := As.fa hSw; go_simp; try with_reducible rfl
      try simp only [pS]
      refine tk 4 rfl (v := ?v67) (.inl ⟨by rfl, ?hy67⟩) ?rest67
      case hy67 => intro w hSw; have hSc := As.fa hSw; go_simp; try with_reducible rfl
      try simp only [pS]
      refine tk 5 rfl (v := ?v68) (.inl ⟨by rfl, ?hy68⟩) ?rest68
      case hy68 => intro w hSw; have hSc := As.fa hSw; go_simp; try with_reducible rfl
      try simp only [pS]
      refine tk 6 rfl (v := ?v69) (.inl ⟨by rfl, ?hy69⟩) ?rest69
      case hy69 => intro w hSw; have hSc := As.fa hSw; go_simp; try with_reducible rfl
      try simp only [pS]
      refine tk 7 rfl (v := ?v70) (.inl ⟨by rfl, ?hy70⟩) ?rest70
      case hy70 => intro w hSw; have hSc := As.fa hSw; go_simp; try with_reducible rfl
      try simp only [pS]
      refine tk 8 rfl (v := ?v71) (.inl ⟨by rfl, ?hy71⟩) ?rest71
      case hy71 => intro w hSw; have hSc := As.fa hSw; go_simp; try with_reducible rfl
      try simp only [pS]
      refine wpAnyH_ready (rs := [1]) (by kernel_rfl) (by simp) ?_
      refine rc rfl fun K hK => ?_
      go_simp
      refine ((uh HIN _)).mono ?_; rintro e w1' ⟨rfl, hb1⟩; have HS1 := hide ((uh HS0).below hb1); have BB1 := hide ((uh BB0).trans (hb1.mono (uh BB0).size)); clear hb1
      go_wp2_with fail
      refine hK.out _ _ (by first | exact (uh HS1) | assumption | (dsimp only; assumption)) (fun hHeld2 => ?_)
      clear hK K
      try simp only [pS]
      refine wpAnyH_ready (rs := [2]) (by kernel_rfl) (by simp) ?_
      refine rc rfl fun K hK => ?_
      go_simp
      refine (when_any _ _ _).mono ?_; rintro e ww2 ⟨rfl, hw2⟩; subst hw2
      go_wp2_with fail
      refine hK.out _ _ (by first | exact (uh HS1) | assumption | (dsimp only; assumption)) (fun hHeld2 => ?_)
      clear hK K
      try simp only [pS]
      refine wpAnyH_ready (rs := [9]) (by kernel_rfl) (by simp) ?_
      refine rc rfl fun K hK => ?_
      go_simp
      refine ((uh HOW _)).mono ?_; rintro e w2' ⟨rfl, hb2⟩; have HS2 := hide ((uh HS1).below hb2); have BB2 := hide ((uh BB1).trans (hb2.mono (uh BB1).size)); clear hb2
      go_wp2_with fail
      refine hK.out _ _ (by first | exact (uh HS2) | assumption | (dsimp only; assumption)) (fun hHeld2 => ?_)
      clear hK K
      try simp only [pS]
      refine tk 10 rfl (v := ?v72) (.inl ⟨by rfl, ?hy72⟩) ?rest72
      case hy72 => intro w hSw; have hSc := As.fa hSw; go_simp; try with_reducible rfl
      try simp only [pS]
      refine tk 11 rfl (v := ?v73) (.inl ⟨by rfl, ?hy73⟩) ?rest73
      case hy73 => intro w hSw; have hSc := As.fa hSw; go_simp; try with_reducible rfl
      try simp only [pS]
      refine tk 12 rfl (v := undef) (.inr ⟨by rfl, rfl⟩) ?_
      try simp only [pS]
      refine tk 13 rfl (v := undef) (.inr ⟨by rfl, rfl⟩) ?_
      try simp only [pS]
      refine tk 14 rfl (v := undef) (.inr ⟨by rfl, rfl⟩) ?_
      try simp only [pS]
      refine tk 15 rfl (v := undef) (.inr ⟨by rfl, rfl⟩) ?_
      try simp only [pS]
      refine tk 16 rfl (v := undef) (.inr ⟨by rfl, rfl⟩) ?_
      try simp only [pS]
      refine tk 17 rfl (v := undef) (.inr ⟨by rfl, rfl⟩) ?_
      try simp only [pS]
      refine tk 18 rfl (v := undef) (.inr ⟨by rfl, rfl⟩) ?_
      try simp only [pS]
      refine tk 19 rfl (v := undef) (.inr ⟨by rfl, rfl⟩) ?_
      try simp only [pS]
      refine tk 20 rfl (v := ?v82) (.inl ⟨by rfl, ?hy82⟩) ?rest82
      case hy82 => intro w hSw; have hSc := As.fa hSw; go_simp; try with_reducible rfl
      try simp only [pS]
      refine wpAnyH_ready (rs := [21]) (by kernel_rfl) (by simp) ?_
      refine rc rfl fun K hK => ?_
      go_simp
      refine (when_any _ _ _).mono ?_; rintro e ww21 ⟨rfl, hw21⟩; subst hw21
      go_wp2_with fail
      refine hK.out _ _ (by first | exact (uh HS2) | assumption | (dsimp only; assumption)) (fun hHeld2 => ?_)
      clear hK K
      try simp only [pS]
      refine wpAnyH_ready (rs := [22]) (by kernel_rfl) (by simp) ?_
      refine rc rfl fun K hK => ?_
      go_simp
      skip
      go_wp2_with fail
      refine hK.out _ _ (by first | exact ((uh HS2).al _) | assumption | (dsimp only; assumption)) (fun hHeld2 => ?_)
      clear hK K
      try simp only [pS]
      refine wpAnyH_ready (rs := [23]) (by kernel_rfl) (by simp) ?_
      refine rc rfl fun K hK => ?_
      go_simp
      refine (or2_any _ _ _ _ rfl).mono ?_; rintro e ww23 ⟨rfl, hw23⟩; subst hw23
      go_wp2_with fail
      refine hK.out _ _ (by first | exact ((uh HS2).al _) | assumption | (dsimp only; assumption)) (fun hHeld2 => ?_)
      clear hK K
      try simp only [pS]
      refine tk 24 rfl (v := ?v83) (.inl ⟨by rfl, ?hy83⟩) ?rest83
      case hy83 => intro w hSw; have hSc := As.fa hSw; go_simp; try with_reducible rfl
      try simp only [pS]
      refine wpAnyH_done (by kernel_rfl) ?_ _
      go_wp2_with fail
      go_meet
      exact ⟨by rw [uh hER], ((uh HS2).al _).act, (uh BB2).alloc (uh BB2).size _⟩
    | false =>
      rw [Bool.not_false, Bool.true_and] at hER
      go_wp2_with fail
      refine wp_region_held_drew (S := (fun w' => As w' A x n cap dx dc a nb a.here (.slice da a.here.data.length ec) (.slice la a.here.list.length lc))) (by kernel_rfl) (uh HS0) (fun hHeld => ?_)
      refine tk 0 rfl (v := ?v84) (.inl ⟨by rfl, ?hy84⟩) ?rest84
      case hy84 => intro w hSw; have hSc := As.fa hSw; go_simp; try with_reducible rfl
      try simp only [pS]
      refine tk 3 rfl (v := ?v85) (.inl ⟨by rfl, ?hy85⟩) ?rest85
      case hy85 => intro w hSw; have hSc := As.fa hSw; go_simp; try with_reducible rfl
      try simp only [pS]
      refine tk 4 rfl (v := ?v86) (.inl ⟨by rfl, ?hy86⟩) ?rest86
      case hy86 => intro w hSw; have hSc := As.fa hSw; go_simp; try with_reducible rfl
      try simp only [pS]
      refine tk 5 rfl (v := ?v87) (.inl ⟨by rfl, ?hy87⟩) ?rest87
      case hy87 => intro w hSw; have hSc := As.fa hSw; go_simp; try with_reducible rfl
      try simp only [pS]
      refine tk 6 rfl (v := ?v88) (.inl ⟨by rfl, ?hy88⟩) ?rest88
      case hy88 => intro w hSw; have hSc := As.fa hSw; go_simp; try with_reducible rfl
      try simp only [pS]
      refine tk 7 rfl (v := ?v89) (.inl ⟨by rfl, ?hy89⟩) ?rest89
      case hy89 => intro w hSw; have hSc := As.fa hSw; go_simp; try with_reducible rfl
      try simp only [pS]
      refine tk 8 rfl (v := ?v90) (.inl ⟨by rfl, ?hy90⟩) ?rest90
      case hy90 => intro w hSw; have hSc := As.fa hSw; go_simp; try with_reducible rfl
      try simp only [pS]
      refine wpAnyH_ready (rs := [1]) (by kernel_rfl) (by simp) ?_
      refine rc rfl fun K hK => ?_
      go_simp
      refine ((uh HIN _)).mono ?_; rintro e w1' ⟨rfl, hb1⟩; have HS1 := hide ((uh HS0).below hb1); have BB1 := hide ((uh BB0).trans (hb1.mono (uh BB0).size)); clear hb1
      go_wp2_with fail
      refine hK.out _ _ (by first | exact (uh HS1) | assumption | (dsimp only; assumption)) (fun hHeld2 => ?_)
      clear hK K
      try simp only [pS]
      refine wpAnyH_ready (rs := [2]) (by kernel_rfl) (by simp) ?_
      refine rc rfl fun K hK => ?_
      go_simp
      refine (when_any _ _ _).mono ?_; rintro e ww2 ⟨rfl, hw2⟩; subst hw2
      go_wp2_with fail
      refine hK.out _ _ (by first | exact (uh HS1) | assumption | (dsimp only; assumption)) (fun hHeld2 => ?_)
      clear hK K
      try simp only [pS]
      refine wpAnyH_ready (rs := [9]) (by kernel_rfl) (by simp) ?_
      refine rc rfl fun K hK => ?_
      go_simp
      refine ((uh HOW _)).mono ?_; rintro e w2' ⟨rfl, hb2⟩; have HS2 := hide ((uh HS1).below hb2); have BB2 := hide ((uh BB1).trans (hb2.mono (uh BB1).size)); clear hb2
      go_wp2_with fail
      refine hK.out _ _ (by first | exact (uh HS2) | assumption | (dsimp only; assumption)) (fun hHeld2 => ?_)
      clear hK K
      try simp only [pS]
      refine tk 10 rfl (v := ?v91) (.inl ⟨by rfl, ?hy91⟩) ?rest91
      case hy91 => intro w hSw; have hSc := As.fa hSw; go_simp; try with_reducible rfl
      try simp only [pS]
      refine tk 11 rfl (v := ?v92) (.inl ⟨by rfl, ?hy92⟩) ?rest92
      case hy92 => intro w hSw; have hSc := As.fa hSw; go_simp; try with_reducible rfl
      try simp only [pS]
      refine tk 12 rfl (v := ?v93) (.inl ⟨by rfl, ?hy93⟩) ?rest93
      case hy93 => intro w hSw; have hSc := As.fa hSw; go_simp; try with_reducible rfl
      try simp only [pS]
      refine tk 13 rfl (v := ?v94) (.inl ⟨by rfl, ?hy94⟩) ?rest94
      case hy94 => intro w hSw; have hSc := As.fa hSw; go_simp; try with_reducible rfl
      try simp only [pS]
      refine tk 14 rfl (v := ?v95) (.inl ⟨by rfl, ?hy95⟩) ?rest95
      case hy95 => intro w hSw; have hSc := As.fa hSw; go_simp; try with_reducible rfl
      try simp only [pS]
      refine tk 15 rfl (v := ?v96) (.inl ⟨by rfl, ?hy96⟩) ?rest96
      case hy96 => intro w hSw; have hSc := As.fa hSw; go_simp; try with_reducible rfl
      try simp only [pS]
      refine tk 16 rfl (v := ?v97) (.inl ⟨by rfl, ?hy97⟩) ?rest97
      case hy97 => intro w hSw; have hSc := As.fa hSw; go_simp; try with_reducible rfl
      try simp only [pS]
      refine tk 17 rfl (v := ?v98) (.inl ⟨by rfl, ?hy98⟩) ?rest98
      case hy98 => intro w hSw; have hSc := As.fa hSw; go_simp; try with_reducible rfl
      try simp only [pS]
      refine wpAnyH_ready (rs := [18]) (by kernel_rfl) (by simp) ?_
      refine rc rfl fun K hK => ?_
      go_simp
      refine ((uh HMY _)).mono ?_; rintro e w3' ⟨rfl, hb3⟩; have HS3 := hide ((uh HS2).below hb3); have BB3 := hide ((uh BB2).trans (hb3.mono (uh BB2).size)); clear hb3
      go_wp2_with fail
      refine hK.out _ _ (by first | exact (uh HS3) | assumption | (dsimp only; assumption)) (fun hHeld2 => ?_)
      clear hK K
      try simp only [pS]
      refine tk 19 rfl (v := ?v99) (.inl ⟨by rfl, ?hy99⟩) ?rest99
      case hy99 => intro w hSw; have hSc := As.fa hSw; go_simp; try with_reducible rfl
      try simp only [pS]
      refine tk 20 rfl (v := ?v100) (.inl ⟨by rfl, ?hy100⟩) ?rest100
      case hy100 => intro w hSw; have hSc := As.fa hSw; go_simp; try with_reducible rfl
      try simp only [pS]
      refine wpAnyH_ready (rs := [21]) (by kernel_rfl) (by simp) ?_
      refine rc rfl fun K hK => ?_
      go_simp
      refine (when_any _ _ _).mono ?_; rintro e ww21 ⟨rfl, hw21⟩; subst hw21
      go_wp2_with fail
      refine hK.out _ _ (by first | exact (uh HS3) | assumption | (dsimp only; assumption)) (fun hHeld2 => ?_)
      clear hK K
      try simp only [pS]
      refine wpAnyH_ready (rs := [22]) (by kernel_rfl) (by simp) ?_
      refine rc rfl fun K hK => ?_
      go_simp
      skip
      go_wp2_with fail
      refine hK.out _ _ (by first | exact ((uh HS3).al _) | assumption | (dsimp only; assumption)) (fun hHeld2 => ?_)
      clear hK K
      try simp only [pS]
      refine wpAnyH_ready (rs := [23]) (by kernel_rfl) (by simp) ?_
      refine rc rfl fun K hK => ?_
      go_simp
      refine (or2_any _ _ _ _ rfl).mono ?_; rintro e ww23 ⟨rfl, hw23⟩; subst hw23
      go_wp2_with fail
      refine hK.out _ _ (by first | exact ((uh HS3).al _) | assumption | (dsimp only; assumption)) (fun hHeld2 => ?_)
      clear hK K
      try simp only [pS]
      refine tk 24 rfl (v := ?v101) (.inl ⟨by rfl, ?hy101⟩) ?rest101
      case hy101 => intro w hSw; have hSc := As.fa hSw; go_simp; try with_reducible rfl
      try simp only [pS]
      refine wpAnyH_done (by kernel_rfl) ?_ _
      go_wp2_with fail
      go_meet
      exact ⟨by rw [uh hER], ((uh HS3).al _).act, (uh BB3).alloc (uh BB3).size _⟩
  case rest =>
    obtain ⟨rfl, HA, HBB⟩ := hcut
    rw [uh HW1] at HBB
    clear HS0 BB0 hER
    by_cases her : er = 0
    · have HK2 : Hid (RR = yes a.now (upd a.ns a.p.node.toNat fun y => { y with time := told a.c.time a.now })) := by show _ = _; rw [uh HK, if_neg (fun q => q her)]
      have hern : (er != 0) = false := by simpa using her
      subst her
      clear HK hern
      have HRB : Hid (w.heap.size < wc.heap.size) := by show _ < _; have := (uh HBB).size; simp at this; omega
      have HCP := hide (copy_any (uh HA))
      go_wp2_with fail
      refine (uh HCP).mono ?_
      rintro e w2 ⟨⟨D, v2, l2, rfl, hdf2, hm2⟩, hb2⟩
      have hl2 : l2.length = a.ns.length := by rw [← hm2, List.length_map]
      have hal := (uh HA).len
      obtain ⟨g, c, hvg⟩ := hdf2.at (by omega)
      subst hvg
      have hpn := uh HPN
      have hpl : pm < l2.length := by rw [hl2]; exact hpn
      have hpl2 : (pm : Int) < (l2.length : Int) := by omega
      have hb2d := below_dr hb2
      have HD3 := hide ((hdf2.upd1 pm 5 (.int .i64 (told a.c.time a.now)) (fun y => { y with time := told a.c.time a.now }) hpl (by omega) (fun _ _ _ => .inl rfl) (fun _ => rfl) (fun _ => rfl)).dr)
      have CB3 : Hid (Below wc.heap.size wc (w2.setCell ⟨g, pm * 10 + 5, none⟩ (.int .i64 (told a.c.time a.now))).drew) := below_dr (hb2.setCell (p := ⟨g, pm * 10 + 5, none⟩) hdf2.ne.2.1 (.int .i64 (told a.c.time a.now)))
      have HM3 : Hid ((updL l2 pm fun y => { y with time := told a.c.time a.now }).map (·.1) = upd a.ns a.p.node.toNat fun y => { y with time := told a.c.time a.now }) := by show _ = _; rw [updL_fst _ _ hpl, hm2, uh HPM]; rfl
      generalize updL l2 pm (fun y => { y with time := told a.c.time a.now }) = l3 at *
      obtain ⟨m2, dv2, lv2, hx2⟩ : ∃ m2 dv2 lv2, l2.getD pm zNv = (m2, dv2, lv2) := ⟨_, _, _, rfl⟩
      obtain ⟨n0, n1, n2, n3, n4, n5, n6, n7, n8, n9⟩ := hdf2.ten pm hpl hx2
      have fz := hdf2.frozen (pm * 10 + 5)
      obtain ⟨t0, t1, -⟩ := hdf2.cells
      have hv := ((uh HA).below hb2).cells
      rw [uh HPM] at hv
      have hAg : A ≠ g := by have := (uh HA).lt; have := hdf2.ne.2.1; omega
      have hDg : D ≠ g := hdf2.ne.1
      have hSD : (fun w' => w'.cell? ⟨A, 8, none⟩ = some (.int .i64 a.c.time) ∧ w'.cell? ⟨A, 16, none⟩ = some (.int .i64 pm) ∧ w'.cell? ⟨D, 0, none⟩ = some (.slice (some ⟨g, 0, none⟩) l2.length c) ∧ w'.cell? ⟨D, 1, none⟩ = some (.int .i64 a.now)) w2.drew := by
        obtain ⟨-, -, -, -, -, -, -, -, y8, -, -, -, -, -, -, -, y16, -⟩ := hv
        exact ⟨y8, y16, t0, t1⟩
      have hSF : (fun w' => w'.cell? ⟨A, 8, none⟩ = some (.int .i64 a.c.time) ∧ w'.cell? ⟨A, 16, none⟩ = some (.int .i64 pm) ∧ w'.cell? ⟨D, 0, none⟩ = some (.slice (some ⟨g, 0, none⟩) l2.length c) ∧ w'.cell? ⟨D, 1, none⟩ = some (.int .i64 a.now)) (w2.drew.setCell ⟨g, pm * 10 + 5, none⟩ (.int .i64 (told a.c.time a.now))) := by
        have q : ∀ (b j : Nat), b ≠ g → (w2.drew.setCell ⟨g, pm * 10 + 5, none⟩ (.int .i64 (told a.c.time a.now))).cell? ⟨b, j, none⟩ = w2.drew.cell? ⟨b, j, none⟩ := fun b j hb => World.cell?_setCell_far _ _ _ _ (fun e => hb e.symm)
        exact ⟨(q A 8 hAg).trans hSD.1, (q A 16 hAg).trans hSD.2.1, (q D 0 hDg).trans hSD.2.2.1, (q D 1 hDg).trans hSD.2.2.2⟩
      simp only at hSD hSF
      clear hdf2 hm2 hb2 hb2d hl2 hal HCP hx2 hpn hpl
      go_wp2_with fail
      refine wp_region_held_drew (S := (fun w' => w'.cell? ⟨A, 8, none⟩ = some (.int .i64 a.c.time) ∧ w'.cell? ⟨A, 16, none⟩ = some (.int .i64 pm) ∧ w'.cell? ⟨D, 0, none⟩ = some (.slice (some ⟨g, 0, none⟩) l2.length c) ∧ w'.cell? ⟨D, 1, none⟩ = some (.int .i64 a.now))) (by kernel_rfl) hSD (fun hHeld => ?_)
      refine tk 0 rfl (v := ?v43) (.inl ⟨by rfl, ?hy43⟩) ?rest43
      case hy43 => intro w hSw; skip; go_simp; try with_reducible rfl
      try simp only [pS]
      refine tk 1 rfl (v := ?v44) (.inl ⟨by rfl, ?hy44⟩) ?rest44
      case hy44 => intro w hSw; skip; go_simp; try with_reducible rfl
      try simp only [pS]
      refine tk 2 rfl (v := ?v45) (.inl ⟨by rfl, ?hy45⟩) ?rest45
      case hy45 => intro w hSw; skip; go_simp; try with_reducible rfl
      try simp only [pS]
      refine tk 3 rfl (v := ?v46) (.inl ⟨by rfl, ?hy46⟩) ?rest46
      case hy46 => intro w hSw; skip; go_simp; try with_reducible rfl
      try simp only [pS]
      refine tk 4 rfl (v := ?v47) (.inl ⟨by rfl, ?hy47⟩) ?rest47
      case hy47 => intro w hSw; skip; go_simp; try with_reducible rfl
      try simp only [pS]
      refine tk 5 rfl (v := ?v48) (.inl ⟨by rfl, ?hy48⟩) ?rest48
      case hy48 => intro w hSw; skip; go_simp; try with_reducible rfl
      try simp only [pS]
      refine tk 6 rfl (v := ?v49) (.inl ⟨by rfl, ?hy49⟩) ?rest49
      case hy49 => intro w hSw; skip; go_simp; try with_reducible rfl
      try simp only [pS]
      refine tk 7 rfl (v := ?v50) (.inl ⟨by rfl, ?hy50⟩) ?rest50
      case hy50 => intro w hSw; skip; go_simp; try with_reducible rfl
      try simp only [pS]
      refine tk 8 rfl (v := ?v51) (.inl ⟨by rfl, ?hy51⟩) ?rest51
      case hy51 => intro w hSw; skip; go_simp; try with_reducible rfl
      try simp only [pS]
      refine tk 9 rfl (v := ?v52) (.inl ⟨by rfl, ?hy52⟩) ?rest52
      case hy52 => intro w hSw; skip; go_simp; try with_reducible rfl
      try simp only [pS]
      refine tk 10 rfl (v := ?v53) (.inl ⟨by rfl, ?hy53⟩) ?rest53
      case hy53 => intro w hSw; skip; go_simp; try with_reducible rfl
      try simp only [pS]
      refine tk 11 rfl (v := ?v54) (.inl ⟨by rfl, ?hy54⟩) ?rest54
      case hy54 => intro w hSw; skip; go_simp; try with_reducible rfl
      try simp only [pS]
      refine tk 12 rfl (v := ?v55) (.inl ⟨by rfl, ?hy55⟩) ?rest55
      case hy55 => intro w hSw; skip; go_simp; try with_reducible rfl
      try simp only [pS]
      refine tk 13 rfl (v := ?v56) (.inl ⟨by rfl, ?hy56⟩) ?rest56
      case hy56 => intro w hSw; skip; go_simp; try with_reducible rfl
      try simp only [pS]
      refine tk 14 rfl (v := ?v57) (.inl ⟨by rfl, ?hy57⟩) ?rest57
      case hy57 => intro w hSw; skip; go_simp; try with_reducible rfl
      try simp only [pS]
      refine tk 15 rfl (v := ?v58) (.inl ⟨by rfl, ?hy58⟩) ?rest58
      case hy58 => intro w hSw; skip; go_simp; try with_reducible rfl
      try simp only [pS]
      refine tk 16 rfl (v := ?v59) (.inl ⟨by rfl, ?hy59⟩) ?rest59
      case hy59 => intro w hSw; skip; go_simp; try with_reducible rfl
      try simp only [pS]
      refine tk 17 rfl (v := ?v60) (.inl ⟨by rfl, ?hy60⟩) ?rest60
      case hy60 => intro w hSw; skip; go_simp; try with_reducible rfl
      try simp only [pS]
      refine tk 18 rfl (v := ?v61) (.inl ⟨by rfl, ?hy61⟩) ?rest61
      case hy61 => intro w hSw; skip; go_simp; try with_reducible rfl
      try simp only [pS]
      refine tk 19 rfl (v := ?v62) (.inl ⟨by rfl, ?hy62⟩) ?rest62
      case hy62 => intro w hSw; skip; go_simp; try with_reducible rfl
      try simp only [pS]
      refine wpAnyH_ready (rs := [20]) (by kernel_rfl) (by simp) ?_
      refine rc rfl fun K hK => ?_
      go_simp
      refine (told_any _ _ _).mono ?_; rintro e ww ⟨rfl, hw⟩; subst hw
      go_wp2_with fail
      refine hK.out _ _ (by first | exact hSD | assumption | (dsimp only; assumption)) (fun hHeld2 => ?_)
      clear hK K
      try simp only [pS]
      refine tk 21 rfl (v := ?v63) (.inl ⟨by rfl, ?hy63⟩) ?rest63
      case hy63 => intro w hSw; skip; go_simp; try with_reducible rfl
      try simp only [pS]
      refine tk 22 rfl (v := ?v64) (.inl ⟨by rfl, ?hy64⟩) ?rest64
      case hy64 => intro w hSw; skip; go_simp; try with_reducible rfl
      try simp only [pS]
      refine wpAnyH_ready (rs := [23]) (by kernel_rfl) (by simp) ?_
      refine rc rfl fun K hK => ?_
      go_simp
      skip
      go_wp2_with fail
      refine hK.out _ _ (by first | exact hSF | assumption | (dsimp only; assumption)) (fun hHeld2 => ?_)
      clear hK K
      try simp only [pS]
      refine wpAnyH_done (by kernel_rfl) ?_ _
      go_upto_region 7 with fail
      obtain ⟨w4, hw4⟩ : ∃ w4, w4 = (w2.setCell ⟨g, pm * 10 + 5, none⟩ (.int .i64 (told a.c.time a.now))).drew := ⟨_, rfl⟩
      rw [← hw4]
      have HD4 : Hid (Df w4 wc.heap.size D a.now (.slice (some ⟨g, 0, none⟩) l2.length c) l3) := by rw [hw4]; exact (uh HD3)
      have CB4 : Hid (Below wc.heap.size wc w4) := by rw [hw4]; exact uh CB3
      clear HD3 CB3 hw4 n0 n1 n2 n3 n4 n5 n6 n7 n8 n9 fz t0 t1 hv
      have HBW := hide ((uh HBB).trans ((uh CB4).mono (by have := uh HRB; have := (uh HBB).size; omega)))
      obtain ⟨r0, r1, z0, z1⟩ := room_cells (uh HBW)
      obtain ⟨t0, t1, -⟩ := (uh HD4).cells
      have HDF := hide (((uh HD4).room (uh HRB) (.slice (some ⟨g, 0, none⟩) l2.length c) (.int .i64 a.now)).ot (Nat.le_of_lt (uh HRB)) (uh HM3))
      have HF := hide (room_below (uh HBW) (.slice (some ⟨g, 0, none⟩) l2.length c) (.int .i64 a.now))
      go_wp2_with fail
      refine bodyPost_ret (v := .tuple #[.agg #[.slice (some ⟨g, 0, none⟩) l2.length c, .int .i64 a.now], .int .i64 0]) (by simp [results, Tryz.results132, go_sem, r0, r1]) rfl ?_
      show DoR RR w _ _
      rw [uh HK2]
      exact ⟨⟨_, rfl, uh HDF⟩, uh HF⟩
    · have HRD := hide (room_cells (uh HBB))
      have HF := hide (room_below (uh HBB) (.slice none 0 0) (.int .i64 0))
      have HK2 : Hid (RR = no er) := by show _ = _; rw [uh HK, if_pos her]
      obtain ⟨r0, r1, z0, z1⟩ := uh HRD
      have hern : (er != 0) = true := by simpa using her
      clear HRD HK HBB HA
      go_wp2_with fail
      refine bodyPost_ret (v := .tuple #[.agg #[.slice none 0 0, .int .i64 0], .int .i64 er]) (by simp [results, Tryz.results132, go_sem, r0, r1]) rfl ?_
      show DoR RR w _ _
      rw [uh HK2]
      exact ⟨⟨_, rfl, ot_nil _ _⟩, uh HF⟩
end Go.Proofs.YtidhceebafmlkaaGreatDoor.Ca
