import Derived.Test.YtidhceebafmlkaaGreatDoorCaUp
namespace Go.Proofs.YtidhceebafmlkaaGreatDoor.Ca
open Go.RowKit Cu Tr Pm Pt
set_option maxRecDepth 100000 in
set_option maxHeartbeats 4000000 in
theorem mayMove_any (A : Nat) (x : Option Addr) (n cap : Nat) (dx : Option Addr) (dc : Nat) (a : Ac) (w : World) (h : At w A x n cap dx dc a) (hp : Okp a.ns a.p) (hq : Okp a.ns a.q) :
    Calls Tryz.prog 204 #[.pointer (some ⟨A, 0, none⟩)] w fun e w' => e = .returned (.int .i64 a.mayMove) ∧ Below w.heap.size w w' := by
  obtain ⟨pd, hpd, hdr⟩ := hp.dir
  obtain ⟨qd, hqd, hqr⟩ := hq.dir
  obtain ⟨qm, hqm, hqn, -⟩ := hq.node h.chk
  obtain ⟨b, off, da, ec, la, lc, hx, hN, -, -⟩ := h.an qd hqr.2.1
  subst hx
  have hdq : (qd : Int) < (n : Int) := by have := h.len; have := hqr.2.1; omega
  obtain ⟨b2, hb2⟩ : ∃ b, b = isN a.there := ⟨_, rfl⟩
  have HM1 : Hid (∀ W, At W A (some ⟨b, off, none⟩) n cap dx dc a → Calls Tryz.prog 199 #[.pointer (some ⟨A, 0, none⟩), .int .i64 a.p.dir] W fun e w' => e = .returned (.int .i64 (a.mayWrite a.p.dir)) ∧ Below W.heap.size W w') := fun W hW => by rw [hpd]; exact mayWrite_any A (some ⟨b, off, none⟩) n cap dx dc a pd W hW hdr.2.1
  have HM2 : Hid (∀ W, At W A (some ⟨b, off, none⟩) n cap dx dc a → Calls Tryz.prog 199 #[.pointer (some ⟨A, 0, none⟩), .int .i64 a.q.dir] W fun e w' => e = .returned (.int .i64 (a.mayWrite a.q.dir)) ∧ Below W.heap.size W w') := fun W hW => by rw [hqd]; exact mayWrite_any A (some ⟨b, off, none⟩) n cap dx dc a qd W hW hqr.2.1
  have HH : Hid (∀ W, At W A (some ⟨b, off, none⟩) n cap dx dc a → Calls Tryz.prog 247 #[.pointer (some ⟨A, 0, none⟩)] W fun e w' => (∃ v, e = .returned v ∧ IsNd w' v a.there) ∧ Below W.heap.size W w') := fun W hW => there_any A (some ⟨b, off, none⟩) n cap dx dc a qm W hW hqm hqn
  have HIN : Hid (∀ v W, IsNd W v a.there → Calls Tryz.prog 190 #[v] W fun e w' => e = .returned (.bool b2) ∧ Below W.heap.size W w') := fun v W hW => by rw [hb2]; exact isNone_any v a.there W hW
  have HV : Hid (a.mayMove = orP [a.mayWrite a.p.dir, a.mayWrite a.q.dir, wh (b2 && decide (a.q.dir ≠ a.p.dir) && decide (512 ≤ (nd a.ns qd).list.length)) 11]) := by show _ = _; rw [hb2]; unfold Ac.mayMove; rw [show (nd a.ns a.q.dir.toNat) = nd a.ns qd by rw [hqd]; rfl]
  have HA0 : Hid (At w.drew.drew A (some ⟨b, off, none⟩) n cap dx dc a) := h.dr.dr
  have BB0 : Hid (Below w.heap.size w w.drew.drew) := below_dr (below_drew w 1)
  have HL2 : Hid (decide ((512 : Int) ≤ ((nd a.ns qd).list.length : Int)) = decide (512 ≤ (nd a.ns qd).list.length)) := decide_eq_decide.2 (by omega)
  generalize nd a.ns qd = m at *
  rw [← uh HL2] at HV
  have HN0 := hide hN.dr
  have HQD : Hid (a.q.dir = (qd : Int)) := hqd
  clear h hN hb2 hp hq hpd hqr hdr hqm hqn HL2
  go_enter Tryz.func204, Tryz.ntmps204
  go_wp2_with fail
  refine wp_region_held_drew (S := (fun w' => An w' A b off n cap dx dc a qd m (.slice da m.data.length ec) (.slice la m.list.length lc))) (by kernel_rfl) (uh HN0) (fun hHeld => ?_)
  refine tk 0 rfl (v := ?v43) (.inl ⟨by rfl, ?hy43⟩) ?rest43
  case hy43 => intro w hSw; have hSc := At.cells (An.act hSw); rw [hqd] at hSc; have h0 := N10.c0 (An.nd hSw); have h8 := N10.c8 (An.nd hSw); go_simp; try with_reducible rfl
  try simp only [pS]
  refine tk 1 rfl (v := ?v44) (.inl ⟨by rfl, ?hy44⟩) ?rest44
  case hy44 => intro w hSw; have hSc := At.cells (An.act hSw); rw [hqd] at hSc; have h0 := N10.c0 (An.nd hSw); have h8 := N10.c8 (An.nd hSw); go_simp; try with_reducible rfl
  try simp only [pS]
  refine tk 2 rfl (v := ?v45) (.inl ⟨by rfl, ?hy45⟩) ?rest45
  case hy45 => intro w hSw; have hSc := At.cells (An.act hSw); rw [hqd] at hSc; have h0 := N10.c0 (An.nd hSw); have h8 := N10.c8 (An.nd hSw); go_simp; try with_reducible rfl
  try simp only [pS]
  refine tk 3 rfl (v := ?v46) (.inl ⟨by rfl, ?hy46⟩) ?rest46
  case hy46 => intro w hSw; have hSc := At.cells (An.act hSw); rw [hqd] at hSc; have h0 := N10.c0 (An.nd hSw); have h8 := N10.c8 (An.nd hSw); go_simp; try with_reducible rfl
  try simp only [pS]
  refine tk 4 rfl (v := ?v47) (.inl ⟨by rfl, ?hy47⟩) ?rest47
  case hy47 => intro w hSw; have hSc := At.cells (An.act hSw); rw [hqd] at hSc; have h0 := N10.c0 (An.nd hSw); have h8 := N10.c8 (An.nd hSw); go_simp; try with_reducible rfl
  try simp only [pS]
  refine tk 5 rfl (v := ?v48) (.inl ⟨by rfl, ?hy48⟩) ?rest48
  case hy48 => intro w hSw; have hSc := At.cells (An.act hSw); rw [hqd] at hSc; have h0 := N10.c0 (An.nd hSw); have h8 := N10.c8 (An.nd hSw); go_simp; try with_reducible rfl
  try simp only [pS]
  refine tk 6 rfl (v := ?v49) (.inl ⟨by rfl, ?hy49⟩) ?rest49
  case hy49 => intro w hSw; have hSc := At.cells (An.act hSw); rw [hqd] at hSc; have h0 := N10.c0 (An.nd hSw); have h8 := N10.c8 (An.nd hSw); go_simp; try with_reducible rfl
  try simp only [pS]
  refine tk 7 rfl (v := ?v50) (.inl ⟨by rfl, ?hy50⟩) ?rest50
  case hy50 => intro w hSw; have hSc := At.cells (An.act hSw); rw [hqd] at hSc; have h0 := N10.c0 (An.nd hSw); have h8 := N10.c8 (An.nd hSw); go_simp; try with_reducible rfl
  try simp only [pS]
  refine tk 8 rfl (v := ?v51) (.inl ⟨by rfl, ?hy51⟩) ?rest51
  case hy51 => intro w hSw; have hSc := At.cells (An.act hSw); rw [hqd] at hSc; have h0 := N10.c0 (An.nd hSw); have h8 := N10.c8 (An.nd hSw); go_simp; try with_reducible rfl
  try simp only [pS]
  refine tk 9 rfl (v := ?v52) (.inl ⟨by rfl, ?hy52⟩) ?rest52
  case hy52 => intro w hSw; have hSc := At.cells (An.act hSw); rw [hqd] at hSc; have h0 := N10.c0 (An.nd hSw); have h8 := N10.c8 (An.nd hSw); go_simp; try with_reducible rfl
  try simp only [pS]
  refine tk 10 rfl (v := ?v53) (.inl ⟨by rfl, ?hy53⟩) ?rest53
  case hy53 => intro w hSw; have hSc := At.cells (An.act hSw); rw [hqd] at hSc; have h0 := N10.c0 (An.nd hSw); have h8 := N10.c8 (An.nd hSw); go_simp; try with_reducible rfl
  try simp only [pS]
  refine tk 11 rfl (v := ?v54) (.inl ⟨by rfl, ?hy54⟩) ?rest54
  case hy54 => intro w hSw; have hSc := At.cells (An.act hSw); rw [hqd] at hSc; have h0 := N10.c0 (An.nd hSw); have h8 := N10.c8 (An.nd hSw); go_simp; try with_reducible rfl
  try simp only [pS]
  refine tk 12 rfl (v := ?v55) (.inl ⟨by rfl, ?hy55⟩) ?rest55
  case hy55 => intro w hSw; have hSc := At.cells (An.act hSw); rw [hqd] at hSc; have h0 := N10.c0 (An.nd hSw); have h8 := N10.c8 (An.nd hSw); go_simp; try with_reducible rfl
  try simp only [pS]
  refine tk 13 rfl (v := ?v56) (.inl ⟨by rfl, ?hy56⟩) ?rest56
  case hy56 => intro w hSw; have hSc := At.cells (An.act hSw); rw [hqd] at hSc; have h0 := N10.c0 (An.nd hSw); have h8 := N10.c8 (An.nd hSw); go_simp; try with_reducible rfl
  try simp only [pS]
  refine tk 14 rfl (v := ?v57) (.inl ⟨by rfl, ?hy57⟩) ?rest57
  case hy57 => intro w hSw; have hSc := At.cells (An.act hSw); rw [hqd] at hSc; have h0 := N10.c0 (An.nd hSw); have h8 := N10.c8 (An.nd hSw); go_simp; try with_reducible rfl
  try simp only [pS]
  refine tk 15 rfl (v := ?v58) (.inl ⟨by rfl, ?hy58⟩) ?rest58
  case hy58 => intro w hSw; have hSc := At.cells (An.act hSw); rw [hqd] at hSc; have h0 := N10.c0 (An.nd hSw); have h8 := N10.c8 (An.nd hSw); go_simp; try with_reducible rfl
  try simp only [pS]
  refine wpAnyH_done (by kernel_rfl) ?_ _
  clear HN0 hqd hdq
  cases b2 with
  | false =>
    simp only [Bool.false_and] at HV
    go_wp2_with fail
    refine wp_region_held_drew (S := (fun w' => At w' A (some ⟨b, off, none⟩) n cap dx dc a)) (by kernel_rfl) (uh HA0) (fun hHeld => ?_)
    refine tk 0 rfl (v := ?v59) (.inl ⟨by rfl, ?hy59⟩) ?rest59
    case hy59 => intro w hSw; have hSc := At.cells hSw; go_simp; try with_reducible rfl
    try simp only [pS]
    refine tk 1 rfl (v := ?v60) (.inl ⟨by rfl, ?hy60⟩) ?rest60
    case hy60 => intro w hSw; have hSc := At.cells hSw; go_simp; try with_reducible rfl
    try simp only [pS]
    refine tk 2 rfl (v := ?v61) (.inl ⟨by rfl, ?hy61⟩) ?rest61
    case hy61 => intro w hSw; have hSc := At.cells hSw; go_simp; try with_reducible rfl
    try simp only [pS]
    refine tk 3 rfl (v := ?v62) (.inl ⟨by rfl, ?hy62⟩) ?rest62
    case hy62 => intro w hSw; have hSc := At.cells hSw; go_simp; try with_reducible rfl
    try simp only [pS]
    refine tk 4 rfl (v := ?v63) (.inl ⟨by rfl, ?hy63⟩) ?rest63
    case hy63 => intro w hSw; have hSc := At.cells hSw; go_simp; try with_reducible rfl
    try simp only [pS]
    refine tk 5 rfl (v := ?v64) (.inl ⟨by rfl, ?hy64⟩) ?rest64
    case hy64 => intro w hSw; have hSc := At.cells hSw; go_simp; try with_reducible rfl
    try simp only [pS]
    refine tk 7 rfl (v := ?v65) (.inl ⟨by rfl, ?hy65⟩) ?rest65
    case hy65 => intro w hSw; have hSc := At.cells hSw; go_simp; try with_reducible rfl
    try simp only [pS]
    refine tk 8 rfl (v := ?v66) (.inl ⟨by rfl, ?hy66⟩) ?rest66
    case hy66 => intro w hSw; have hSc := At.cells hSw; go_simp; try with_reducible rfl
    try simp only [pS]
    refine tk 9 rfl (v := ?v67) (.inl ⟨by rfl, ?hy67⟩) ?rest67
    case hy67 => intro w hSw; have hSc := At.cells hSw; go_simp; try with_reducible rfl
    try simp only [pS]
    refine tk 10 rfl (v := ?v68) (.inl ⟨by rfl, ?hy68⟩) ?rest68
    case hy68 => intro w hSw; have hSc := At.cells hSw; go_simp; try with_reducible rfl
    try simp only [pS]
    refine tk 11 rfl (v := ?v69) (.inl ⟨by rfl, ?hy69⟩) ?rest69
    case hy69 => intro w hSw; have hSc := At.cells hSw; go_simp; try with_reducible rfl
    try simp only [pS]
    refine tk 12 rfl (v := ?v70) (.inl ⟨by rfl, ?hy70⟩) ?rest70
    case hy70 => intro w hSw; have hSc := At.cells hSw; go_simp; try with_reducible rfl
    try simp only [pS]
    refine tk 14 rfl (v := ?v71) (.inl ⟨by rfl, ?hy71⟩) ?rest71
    case hy71 => intro w hSw; have hSc := At.cells hSw; go_simp; try with_reducible rfl
    try simp only [pS]
    refine wpAnyH_ready (rs := [6]) (by kernel_rfl) (by simp) ?_
    refine rc rfl fun K hK => ?_
    go_simp
    refine (uh HM1 _ (uh HA0)).mono ?_; rintro e w1 ⟨rfl, hb1⟩; have HA1 := hide ((uh HA0).below hb1); have BB1 := hide ((uh BB0).trans (hb1.mono (uh BB0).size)); clear hb1
    go_wp2_with fail
    refine hK.out _ _ (by first | exact (uh HA1) | assumption | (dsimp only; assumption)) (fun hHeld2 => ?_)
    clear hK K
    try simp only [pS]
    refine wpAnyH_ready (rs := [13]) (by kernel_rfl) (by simp) ?_
    refine rc rfl fun K hK => ?_
    go_simp
    refine (uh HM2 _ (uh HA1)).mono ?_; rintro e w2 ⟨rfl, hb2⟩; have HA2 := hide ((uh HA1).below hb2); have BB2 := hide ((uh BB1).trans (hb2.mono (uh BB1).size)); clear hb2
    go_wp2_with fail
    refine hK.out _ _ (by first | exact (uh HA2) | assumption | (dsimp only; assumption)) (fun hHeld2 => ?_)
    clear hK K
    try simp only [pS]
    refine wpAnyH_ready (rs := [15]) (by kernel_rfl) (by simp) ?_
    refine rc rfl fun K hK => ?_
    go_simp
    refine (uh HH _ (uh HA2)).mono ?_; rintro e w3 ⟨⟨v3, rfl, hnd3⟩, hb3⟩; have HNd := hide hnd3; have HA3 := hide ((uh HA2).below hb3); have BB3 := hide ((uh BB2).trans (hb3.mono (uh BB2).size)); clear hb3; clear hnd3
    go_wp2_with fail
    refine hK.out _ _ (by first | exact (uh HA3) | assumption | (dsimp only; assumption)) (fun hHeld2 => ?_)
    clear hK K
    try simp only [pS]
    refine wpAnyH_ready (rs := [16]) (by kernel_rfl) (by simp) ?_
    refine rc rfl fun K hK => ?_
    go_simp
    refine (uh HIN _ _ (uh HNd)).mono ?_; rintro e w4 ⟨rfl, hb4⟩; have HA4 := hide ((uh HA3).below hb4); have BB4 := hide ((uh BB3).trans (hb4.mono (uh BB3).size)); clear hb4
    go_wp2_with fail
    refine hK.out _ _ (by first | exact (uh HA4) | assumption | (dsimp only; assumption)) (fun hHeld2 => ?_)
    clear hK K
    try simp only [pS]
    refine tk 17 rfl (v := ?v72) (.inl ⟨by rfl, ?hy72⟩) ?rest72
    case hy72 => intro w hSw; have hSc := At.cells hSw; go_simp; try with_reducible rfl
    try simp only [pS]
    refine tk 18 rfl (v := undef) (.inr ⟨by rfl, rfl⟩) ?_
    try simp only [pS]
    refine tk 19 rfl (v := undef) (.inr ⟨by rfl, rfl⟩) ?_
    try simp only [pS]
    refine tk 20 rfl (v := undef) (.inr ⟨by rfl, rfl⟩) ?_
    try simp only [pS]
    refine tk 21 rfl (v := undef) (.inr ⟨by rfl, rfl⟩) ?_
    try simp only [pS]
    refine tk 22 rfl (v := undef) (.inr ⟨by rfl, rfl⟩) ?_
    try simp only [pS]
    refine tk 23 rfl (v := undef) (.inr ⟨by rfl, rfl⟩) ?_
    try simp only [pS]
    refine tk 24 rfl (v := undef) (.inr ⟨by rfl, rfl⟩) ?_
    try simp only [pS]
    refine tk 25 rfl (v := undef) (.inr ⟨by rfl, rfl⟩) ?_
    try simp only [pS]
    refine tk 26 rfl (v := undef) (.inr ⟨by rfl, rfl⟩) ?_
    try simp only [pS]
    refine tk 27 rfl (v := undef) (.inr ⟨by rfl, rfl⟩) ?_
    try simp only [pS]
    refine tk 28 rfl (v := undef) (.inr ⟨by rfl, rfl⟩) ?_
    try simp only [pS]
    refine tk 29 rfl (v := ?v84) (.inl ⟨by rfl, ?hy84⟩) ?rest84
    case hy84 => intro w hSw; have hSc := At.cells hSw; go_simp; try with_reducible rfl
    try simp only [pS]
    refine tk 30 rfl (v := ?v85) (.inl ⟨by rfl, ?hy85⟩) ?rest85
    case hy85 => intro w hSw; have hSc := At.cells hSw; go_simp; try with_reducible rfl
    try simp only [pS]
    refine tk 31 rfl (v := undef) (.inr ⟨by rfl, rfl⟩) ?_
    try simp only [pS]
    refine tk 32 rfl (v := ?v87) (.inl ⟨by rfl, ?hy87⟩) ?rest87
    case hy87 => intro w hSw; have hSc := At.cells hSw; go_simp; try with_reducible rfl
    try simp only [pS]
    refine wpAnyH_ready (rs := [33]) (by kernel_rfl) (by simp) ?_
    refine rc rfl fun K hK => ?_
    go_simp
    refine (when_any _ _ _).mono ?_; rintro e ww33 ⟨rfl, hw33⟩; subst hw33
    go_wp2_with fail
    refine hK.out _ _ (by first | exact (uh HA4) | assumption | (dsimp only; assumption)) (fun hHeld2 => ?_)
    clear hK K
    try simp only [pS]
    refine wpAnyH_ready (rs := [34]) (by kernel_rfl) (by simp) ?_
    refine rc rfl fun K hK => ?_
    go_simp
    skip
    go_wp2_with fail
    refine hK.out _ _ (by first | exact ((uh HA4).al _) | assumption | (dsimp only; assumption)) (fun hHeld2 => ?_)
    clear hK K
    try simp only [pS]
    refine wpAnyH_ready (rs := [35]) (by kernel_rfl) (by simp) ?_
    refine rc rfl fun K hK => ?_
    go_simp
    refine (or3_any _ _ _ _ _ rfl).mono ?_; rintro e ww35 ⟨rfl, hw35⟩; subst hw35
    go_wp2_with fail
    refine hK.out _ _ (by first | exact ((uh HA4).al _) | assumption | (dsimp only; assumption)) (fun hHeld2 => ?_)
    clear hK K
    try simp only [pS]
    refine tk 36 rfl (v := ?v88) (.inl ⟨by rfl, ?hy88⟩) ?rest88
    case hy88 => intro w hSw; have hSc := At.cells hSw; go_simp; try with_reducible rfl
    try simp only [pS]
    refine wpAnyH_done (by kernel_rfl) ?_ _
    go_wp2_with fail
    go_ret
    exact ⟨by rw [uh HV]; rfl, (uh BB4).alloc (uh BB4).size _⟩
  | true =>
    simp only [Bool.true_and] at HV
    by_cases hne : a.q.dir = a.p.dir
    · have hn1 : (a.q.dir != a.p.dir) = false := by simpa using hne
      have hn2 : decide (a.q.dir ≠ a.p.dir) = false := decide_eq_false (fun q => q hne)
      rw [hn2, Bool.false_and] at HV
      have HNE := hide hne
      clear hne hn2
      go_wp2_with fail
      refine wp_region_held_drew (S := (fun w' => At w' A (some ⟨b, off, none⟩) n cap dx dc a)) (by kernel_rfl) (uh HA0) (fun hHeld => ?_)
      refine tk 0 rfl (v := ?v89) (.inl ⟨by rfl, ?hy89⟩) ?rest89
      case hy89 => intro w hSw; have hSc := At.cells hSw; go_simp; try with_reducible rfl
      try simp only [pS]
      refine tk 1 rfl (v := ?v90) (.inl ⟨by rfl, ?hy90⟩) ?rest90
      case hy90 => intro w hSw; have hSc := At.cells hSw; go_simp; try with_reducible rfl
      try simp only [pS]
      refine tk 2 rfl (v := ?v91) (.inl ⟨by rfl, ?hy91⟩) ?rest91
      case hy91 => intro w hSw; have hSc := At.cells hSw; go_simp; try with_reducible rfl
      try simp only [pS]
      refine tk 3 rfl (v := ?v92) (.inl ⟨by rfl, ?hy92⟩) ?rest92
      case hy92 => intro w hSw; have hSc := At.cells hSw; go_simp; try with_reducible rfl
      try simp only [pS]
      refine tk 4 rfl (v := ?v93) (.inl ⟨by rfl, ?hy93⟩) ?rest93
      case hy93 => intro w hSw; have hSc := At.cells hSw; go_simp; try with_reducible rfl
      try simp only [pS]
      refine tk 5 rfl (v := ?v94) (.inl ⟨by rfl, ?hy94⟩) ?rest94
      case hy94 => intro w hSw; have hSc := At.cells hSw; go_simp; try with_reducible rfl
      try simp only [pS]
      refine tk 7 rfl (v := ?v95) (.inl ⟨by rfl, ?hy95⟩) ?rest95
      case hy95 => intro w hSw; have hSc := At.cells hSw; go_simp; try with_reducible rfl
      try simp only [pS]
      refine tk 8 rfl (v := ?v96) (.inl ⟨by rfl, ?hy96⟩) ?rest96
      case hy96 => intro w hSw; have hSc := At.cells hSw; go_simp; try with_reducible rfl
      try simp only [pS]
      refine tk 9 rfl (v := ?v97) (.inl ⟨by rfl, ?hy97⟩) ?rest97
      case hy97 => intro w hSw; have hSc := At.cells hSw; go_simp; try with_reducible rfl
      try simp only [pS]
      refine tk 10 rfl (v := ?v98) (.inl ⟨by rfl, ?hy98⟩) ?rest98
      case hy98 => intro w hSw; have hSc := At.cells hSw; go_simp; try with_reducible rfl
      try simp only [pS]
      refine tk 11 rfl (v := ?v99) (.inl ⟨by rfl, ?hy99⟩) ?rest99
      case hy99 => intro w hSw; have hSc := At.cells hSw; go_simp; try with_reducible rfl
      try simp only [pS]
      refine tk 12 rfl (v := ?v100) (.inl ⟨by rfl, ?hy100⟩) ?rest100
      case hy100 => intro w hSw; have hSc := At.cells hSw; go_simp; try with_reducible rfl
      try simp only [pS]
      refine tk 14 rfl (v := ?v101) (.inl ⟨by rfl, ?hy101⟩) ?rest101
      case hy101 => intro w hSw; have hSc := At.cells hSw; go_simp; try with_reducible rfl
      try simp only [pS]
      refine wpAnyH_ready (rs := [6]) (by kernel_rfl) (by simp) ?_
      refine rc rfl fun K hK => ?_
      go_simp
      refine (uh HM1 _ (uh HA0)).mono ?_; rintro e w1 ⟨rfl, hb1⟩; have HA1 := hide ((uh HA0).below hb1); have BB1 := hide ((uh BB0).trans (hb1.mono (uh BB0).size)); clear hb1
      go_wp2_with fail
      refine hK.out _ _ (by first | exact (uh HA1) | assumption | (dsimp only; assumption)) (fun hHeld2 => ?_)
      clear hK K
      try simp only [pS]
      refine wpAnyH_ready (rs := [13]) (by kernel_rfl) (by simp) ?_
      refine rc rfl fun K hK => ?_
      go_simp
      refine (uh HM2 _ (uh HA1)).mono ?_; rintro e w2 ⟨rfl, hb2⟩; have HA2 := hide ((uh HA1).below hb2); have BB2 := hide ((uh BB1).trans (hb2.mono (uh BB1).size)); clear hb2
      go_wp2_with fail
      refine hK.out _ _ (by first | exact (uh HA2) | assumption | (dsimp only; assumption)) (fun hHeld2 => ?_)
      clear hK K
      try simp only [pS]
      refine wpAnyH_ready (rs := [15]) (by kernel_rfl) (by simp) ?_
      refine rc rfl fun K hK => ?_
      go_simp
      refine (uh HH _ (uh HA2)).mono ?_; rintro e w3 ⟨⟨v3, rfl, hnd3⟩, hb3⟩; have HNd := hide hnd3; have HA3 := hide ((uh HA2).below hb3); have BB3 := hide ((uh BB2).trans (hb3.mono (uh BB2).size)); clear hb3; clear hnd3
      go_wp2_with fail
      refine hK.out _ _ (by first | exact (uh HA3) | assumption | (dsimp only; assumption)) (fun hHeld2 => ?_)
      clear hK K
      try simp only [pS]
      refine wpAnyH_ready (rs := [16]) (by kernel_rfl) (by simp) ?_
      refine rc rfl fun K hK => ?_
      go_simp
      refine (uh HIN _ _ (uh HNd)).mono ?_; rintro e w4 ⟨rfl, hb4⟩; have HA4 := hide ((uh HA3).below hb4); have BB4 := hide ((uh BB3).trans (hb4.mono (uh BB3).size)); clear hb4
      go_wp2_with fail
      refine hK.out _ _ (by first | exact (uh HA4) | assumption | (dsimp only; assumption)) (fun hHeld2 => ?_)
      clear hK K
      try simp only [pS]
      refine tk 17 rfl (v := ?v102) (.inl ⟨by rfl, ?hy102⟩) ?rest102
      case hy102 => intro w hSw; have hSc := At.cells hSw; go_simp; try with_reducible rfl
      try simp only [pS]
      refine tk 18 rfl (v := ?v103) (.inl ⟨by rfl, ?hy103⟩) ?rest103
      case hy103 => intro w hSw; have hSc := At.cells hSw; go_simp; try with_reducible rfl
      try simp only [pS]
      refine tk 19 rfl (v := ?v104) (.inl ⟨by rfl, ?hy104⟩) ?rest104
      case hy104 => intro w hSw; have hSc := At.cells hSw; go_simp; try with_reducible rfl
      try simp only [pS]
      refine tk 20 rfl (v := ?v105) (.inl ⟨by rfl, ?hy105⟩) ?rest105
      case hy105 => intro w hSw; have hSc := At.cells hSw; go_simp; try with_reducible rfl
      try simp only [pS]
      refine tk 21 rfl (v := ?v106) (.inl ⟨by rfl, ?hy106⟩) ?rest106
      case hy106 => intro w hSw; have hSc := At.cells hSw; go_simp; try with_reducible rfl
      try simp only [pS]
      refine tk 22 rfl (v := ?v107) (.inl ⟨by rfl, ?hy107⟩) ?rest107
      case hy107 => intro w hSw; have hSc := At.cells hSw; go_simp; try with_reducible rfl
      try simp only [pS]
      refine tk 23 rfl (v := ?v108) (.inl ⟨by rfl, ?hy108⟩) ?rest108
      case hy108 => intro w hSw; have hSc := At.cells hSw; go_simp; try with_reducible rfl
      try simp only [pS]
      refine tk 24 rfl (v := ?v109) (.inl ⟨by rfl, ?hy109⟩) ?rest109
      case hy109 => intro w hSw; have hSc := At.cells hSw; go_simp; try with_reducible rfl
      try simp only [pS]
      refine tk 25 rfl (v := ?v110) (.inl ⟨by rfl, ?hy110⟩) ?rest110
      case hy110 => intro w hSw; have hSc := At.cells hSw; go_simp; try with_reducible rfl
      try simp only [pS]
      refine tk 26 rfl (v := ?v111) (.inl ⟨by rfl, ?hy111⟩) ?rest111
      case hy111 => intro w hSw; have hSc := At.cells hSw; go_simp; try with_reducible rfl
      try simp only [pS]
      refine tk 27 rfl (v := ?v112) (.inl ⟨by rfl, ?hy112⟩) ?rest112
      case hy112 => intro w hSw; have hSc := At.cells hSw; go_simp; try with_reducible rfl
      try simp only [pS]
      refine tk 28 rfl (v := ?v113) (.inl ⟨by rfl, ?hy113⟩) ?rest113
      case hy113 => intro w hSw; have hSc := At.cells hSw; go_simp; try with_reducible rfl
      try simp only [pS]
      refine tk 29 rfl (v := ?v114) (.inl ⟨by rfl, ?hy114⟩) ?rest114
      case hy114 => intro w hSw; have hSc := At.cells hSw; go_simp; try with_reducible rfl
      try simp only [pS]
      refine tk 30 rfl (v := ?v115) (.inl ⟨by rfl, ?hy115⟩) ?rest115
      case hy115 => intro w hSw; have hSc := At.cells hSw; go_simp; try with_reducible rfl
      try simp only [pS]
      refine tk 31 rfl (v := undef) (.inr ⟨by rfl, rfl⟩) ?_
      try simp only [pS]
      refine tk 32 rfl (v := ?v117) (.inl ⟨by rfl, ?hy117⟩) ?rest117
      case hy117 => intro w hSw; have hSc := At.cells hSw; go_simp; try with_reducible rfl
      try simp only [pS]
      refine wpAnyH_ready (rs := [33]) (by kernel_rfl) (by simp) ?_
      refine rc rfl fun K hK => ?_
      go_simp
      refine (when_any _ _ _).mono ?_; rintro e ww33 ⟨rfl, hw33⟩; subst hw33
      go_wp2_with fail
      refine hK.out _ _ (by first | exact (uh HA4) | assumption | (dsimp only; assumption)) (fun hHeld2 => ?_)
      clear hK K
      try simp only [pS]
      refine wpAnyH_ready (rs := [34]) (by kernel_rfl) (by simp) ?_
      refine rc rfl fun K hK => ?_
      go_simp
      skip
      go_wp2_with fail
      refine hK.out _ _ (by first | exact ((uh HA4).al _) | assumption | (dsimp only; assumption)) (fun hHeld2 => ?_)
      clear hK K
      try simp only [pS]
      refine wpAnyH_ready (rs := [35]) (by kernel_rfl) (by simp) ?_
      refine rc rfl fun K hK => ?_
      go_simp
      refine (or3_any _ _ _ _ _ rfl).mono ?_; rintro e ww35 ⟨rfl, hw35⟩; subst hw35
      go_wp2_with fail
      refine hK.out _ _ (by first | exact ((uh HA4).al _) | assumption | (dsimp only; assumption)) (fun hHeld2 => ?_)
      clear hK K
      try simp only [pS]
      refine tk 36 rfl (v := ?v118) (.inl ⟨by rfl, ?hy118⟩) ?rest118
      case hy118 => intro w hSw; have hSc := At.cells hSw; go_simp; try with_reducible rfl
      try simp only [pS]
      refine wpAnyH_done (by kernel_rfl) ?_ _
      go_wp2_with fail
      go_ret
      exact ⟨by rw [uh HV]; rfl, (uh BB4).alloc (uh BB4).size _⟩
    · have hn1 : (a.q.dir != a.p.dir) = true := by simpa using hne
      have hn2 : decide (a.q.dir ≠ a.p.dir) = true := decide_eq_true hne
      rw [hn2, Bool.true_and] at HV
      clear hn2
      go_wp2_with fail
      refine wp_region_held_drew (S := (fun w' => At w' A (some ⟨b, off, none⟩) n cap dx dc a)) (by kernel_rfl) (uh HA0) (fun hHeld => ?_)
      refine tk 0 rfl (v := ?v119) (.inl ⟨by rfl, ?hy119⟩) ?rest119
      case hy119 => intro w hSw; have hSc := At.cells hSw; go_simp; try with_reducible rfl
      try simp only [pS]
      refine tk 1 rfl (v := ?v120) (.inl ⟨by rfl, ?hy120⟩) ?rest120
      case hy120 => intro w hSw; have hSc := At.cells hSw; go_simp; try with_reducible rfl
      try simp only [pS]
      refine tk 2 rfl (v := ?v121) (.inl ⟨by rfl, ?hy121⟩) ?rest121
      case hy121 => intro w hSw; have hSc := At.cells hSw; go_simp; try with_reducible rfl
      try simp only [pS]
      refine tk 3 rfl (v := ?v122) (.inl ⟨by rfl, ?hy122⟩) ?rest122
      case hy122 => intro w hSw; have hSc := At.cells hSw; go_simp; try with_reducible rfl
      try simp only [pS]
      refine tk 4 rfl (v := ?v123) (.inl ⟨by rfl, ?hy123⟩) ?rest123
      case hy123 => intro w hSw; have hSc := At.cells hSw; go_simp; try with_reducible rfl
      try simp only [pS]
      refine tk 5 rfl (v := ?v124) (.inl ⟨by rfl, ?hy124⟩) ?rest124
      case hy124 => intro w hSw; have hSc := At.cells hSw; go_simp; try with_reducible rfl
      try simp only [pS]
      refine tk 7 rfl (v := ?v125) (.inl ⟨by rfl, ?hy125⟩) ?rest125
      case hy125 => intro w hSw; have hSc := At.cells hSw; go_simp; try with_reducible rfl
      try simp only [pS]
      refine tk 8 rfl (v := ?v126) (.inl ⟨by rfl, ?hy126⟩) ?rest126
      case hy126 => intro w hSw; have hSc := At.cells hSw; go_simp; try with_reducible rfl
      try simp only [pS]
      refine tk 9 rfl (v := ?v127) (.inl ⟨by rfl, ?hy127⟩) ?rest127
      case hy127 => intro w hSw; have hSc := At.cells hSw; go_simp; try with_reducible rfl
      try simp only [pS]
      refine tk 10 rfl (v := ?v128) (.inl ⟨by rfl, ?hy128⟩) ?rest128
      case hy128 => intro w hSw; have hSc := At.cells hSw; go_simp; try with_reducible rfl
      try simp only [pS]
      refine tk 11 rfl (v := ?v129) (.inl ⟨by rfl, ?hy129⟩) ?rest129
      case hy129 => intro w hSw; have hSc := At.cells hSw; go_simp; try with_reducible rfl
      try simp only [pS]
      refine tk 12 rfl (v := ?v130) (.inl ⟨by rfl, ?hy130⟩) ?rest130
      case hy130 => intro w hSw; have hSc := At.cells hSw; go_simp; try with_reducible rfl
      try simp only [pS]
      refine tk 14 rfl (v := ?v131) (.inl ⟨by rfl, ?hy131⟩) ?rest131
      case hy131 => intro w hSw; have hSc := At.cells hSw; go_simp; try with_reducible rfl
      try simp only [pS]
      refine wpAnyH_ready (rs := [6]) (by kernel_rfl) (by simp) ?_
      refine rc rfl fun K hK => ?_
      go_simp
      refine (uh HM1 _ (uh HA0)).mono ?_; rintro e w1 ⟨rfl, hb1⟩; have HA1 := hide ((uh HA0).below hb1); have BB1 := hide ((uh BB0).trans (hb1.mono (uh BB0).size)); clear hb1
      go_wp2_with fail
      refine hK.out _ _ (by first | exact (uh HA1) | assumption | (dsimp only; assumption)) (fun hHeld2 => ?_)
      clear hK K
      try simp only [pS]
      refine wpAnyH_ready (rs := [13]) (by kernel_rfl) (by simp) ?_
      refine rc rfl fun K hK => ?_
      go_simp
      refine (uh HM2 _ (uh HA1)).mono ?_; rintro e w2 ⟨rfl, hb2⟩; have HA2 := hide ((uh HA1).below hb2); have BB2 := hide ((uh BB1).trans (hb2.mono (uh BB1).size)); clear hb2
      go_wp2_with fail
      refine hK.out _ _ (by first | exact (uh HA2) | assumption | (dsimp only; assumption)) (fun hHeld2 => ?_)
      clear hK K
      try simp only [pS]
      refine wpAnyH_ready (rs := [15]) (by kernel_rfl) (by simp) ?_
      refine rc rfl fun K hK => ?_
      go_simp
      refine (uh HH _ (uh HA2)).mono ?_; rintro e w3 ⟨⟨v3, rfl, hnd3⟩, hb3⟩; have HNd := hide hnd3; have HA3 := hide ((uh HA2).below hb3); have BB3 := hide ((uh BB2).trans (hb3.mono (uh BB2).size)); clear hb3; clear hnd3
      go_wp2_with fail
      refine hK.out _ _ (by first | exact (uh HA3) | assumption | (dsimp only; assumption)) (fun hHeld2 => ?_)
      clear hK K
      try simp only [pS]
      refine wpAnyH_ready (rs := [16]) (by kernel_rfl) (by simp) ?_
      refine rc rfl fun K hK => ?_
      go_simp
      refine (uh HIN _ _ (uh HNd)).mono ?_; rintro e w4 ⟨rfl, hb4⟩; have HA4 := hide ((uh HA3).below hb4); have BB4 := hide ((uh BB3).trans (hb4.mono (uh BB3).size)); clear hb4
      go_wp2_with fail
      refine hK.out _ _ (by first | exact (uh HA4) | assumption | (dsimp only; assumption)) (fun hHeld2 => ?_)
      clear hK K
      try simp only [pS]
      refine tk 17 rfl (v := ?v132) (.inl ⟨by rfl, ?hy132⟩) ?rest132
      case hy132 => intro w hSw; have hSc := At.cells hSw; go_simp; try with_reducible rfl
      try simp only [pS]
      refine tk 18 rfl (v := ?v133) (.inl ⟨by rfl, ?hy133⟩) ?rest133
      case hy133 => intro w hSw; have hSc := At.cells hSw; go_simp; try with_reducible rfl
      try simp only [pS]
      refine tk 19 rfl (v := ?v134) (.inl ⟨by rfl, ?hy134⟩) ?rest134
      case hy134 => intro w hSw; have hSc := At.cells hSw; go_simp; try with_reducible rfl
      try simp only [pS]
      refine tk 20 rfl (v := ?v135) (.inl ⟨by rfl, ?hy135⟩) ?rest135
      case hy135 => intro w hSw; have hSc := At.cells hSw; go_simp; try with_reducible rfl
      try simp only [pS]
      refine tk 21 rfl (v := ?v136) (.inl ⟨by rfl, ?hy136⟩) ?rest136
      case hy136 => intro w hSw; have hSc := At.cells hSw; go_simp; try with_reducible rfl
      try simp only [pS]
      refine tk 22 rfl (v := ?v137) (.inl ⟨by rfl, ?hy137⟩) ?rest137
      case hy137 => intro w hSw; have hSc := At.cells hSw; go_simp; try with_reducible rfl
      try simp only [pS]
      refine tk 23 rfl (v := ?v138) (.inl ⟨by rfl, ?hy138⟩) ?rest138
      case hy138 => intro w hSw; have hSc := At.cells hSw; go_simp; try with_reducible rfl
      try simp only [pS]
      refine tk 24 rfl (v := ?v139) (.inl ⟨by rfl, ?hy139⟩) ?rest139
      case hy139 => intro w hSw; have hSc := At.cells hSw; go_simp; try with_reducible rfl
      try simp only [pS]
      refine tk 25 rfl (v := ?v140) (.inl ⟨by rfl, ?hy140⟩) ?rest140
      case hy140 => intro w hSw; have hSc := At.cells hSw; go_simp; try with_reducible rfl
      try simp only [pS]
      refine tk 26 rfl (v := ?v141) (.inl ⟨by rfl, ?hy141⟩) ?rest141
      case hy141 => intro w hSw; have hSc := At.cells hSw; go_simp; try with_reducible rfl
      try simp only [pS]
      refine tk 27 rfl (v := ?v142) (.inl ⟨by rfl, ?hy142⟩) ?rest142
      case hy142 => intro w hSw; have hSc := At.cells hSw; go_simp; try with_reducible rfl
      try simp only [pS]
      refine tk 28 rfl (v := ?v143) (.inl ⟨by rfl, ?hy143⟩) ?rest143
      case hy143 => intro w hSw; have hSc := At.cells hSw; go_simp; try with_reducible rfl
      try simp only [pS]
      refine tk 29 rfl (v := ?v144) (.inl ⟨by rfl, ?hy144⟩) ?rest144
      case hy144 => intro w hSw; have hSc := At.cells hSw; go_simp; try with_reducible rfl
      try simp only [pS]
      refine tk 30 rfl (v := ?v145) (.inl ⟨by rfl, ?hy145⟩) ?rest145
      case hy145 => intro w hSw; have hSc := At.cells hSw; go_simp; try with_reducible rfl
      try simp only [pS]
      refine tk 31 rfl (v := ?v146) (.inl ⟨by rfl, ?hy146⟩) ?rest146
      case hy146 => intro w hSw; have hSc := At.cells hSw; go_simp; try with_reducible rfl
      try simp only [pS]
      refine tk 32 rfl (v := ?v147) (.inl ⟨by rfl, ?hy147⟩) ?rest147
      case hy147 => intro w hSw; have hSc := At.cells hSw; go_simp; try with_reducible rfl
      try simp only [pS]
      refine wpAnyH_ready (rs := [33]) (by kernel_rfl) (by simp) ?_
      refine rc rfl fun K hK => ?_
      go_simp
      refine (when_any _ _ _).mono ?_; rintro e ww33 ⟨rfl, hw33⟩; subst hw33
      go_wp2_with fail
      refine hK.out _ _ (by first | exact (uh HA4) | assumption | (dsimp only; assumption)) (fun hHeld2 => ?_)
      clear hK K
      try simp only [pS]
      refine wpAnyH_ready (rs := [34]) (by kernel_rfl) (by simp) ?_
      refine rc rfl fun K hK => ?_
      go_simp
      skip
      go_wp2_with fail
      refine hK.out _ _ (by first | exact ((uh HA4).al _) | assumption | (dsimp only; assumption)) (fun hHeld2 => ?_)
      clear hK K
      try simp only [pS]
      refine wpAnyH_ready (rs := [35]) (by kernel_rfl) (by simp) ?_
      refine rc rfl fun K hK => ?_
      go_simp
      refine (or3_any _ _ _ _ _ rfl).mono ?_; rintro e ww35 ⟨rfl, hw35⟩; subst hw35
      go_wp2_with fail
      refine hK.out _ _ (by first | exact ((uh HA4).al _) | assumption | (dsimp only; assumption)) (fun hHeld2 => ?_)
      clear hK K
      try simp only [pS]
      refine tk 36 rfl (v := ?v148) (.inl ⟨by rfl, ?hy148⟩) ?rest148
      case hy148 => intro w hSw; have hSc := At.cells hSw; go_simp; try with_reducible rfl
      try simp only [pS]
      refine wpAnyH_done (by kernel_rfl) ?_ _
      go_wp2_with fail
      go_ret
      exact ⟨by rw [uh HV]; rfl, (uh BB4).alloc (uh BB4).size _⟩
end Go.Proofs.YtidhceebafmlkaaGreatDoor.Ca
